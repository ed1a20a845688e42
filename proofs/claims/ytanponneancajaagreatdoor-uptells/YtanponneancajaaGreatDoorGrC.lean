/-
  What the function inside graph.walk does: one more comes, or has come already.
-/
import Derived.Test.YtanponneancajaaGreatDoorGrB
import Derived.Test.YtanponneancajaaGreatDoorIxO
namespace Go.Proofs.YtanponneancajaaGreatDoor
open Go.RowKit Go.Maps
namespace Ve

/-- The walk's memory: the boxes of the map and of the order, the map, the order. -/
structure Wk (w0 W : World) (bb ob mb : Nat) (T : By) : Prop where
  bl : Below w0.heap.size w0 W
  sz : szT T
  b1 : w0.heap.size ≤ bb
  b2 : w0.heap.size ≤ ob
  b3 : w0.heap.size ≤ mb
  bc : W.heap[bb]? = some (.cells #[.map (some mb)] 179 (0, 0))
  mp : ByAt W mb T
  oc : ∃ ov, W.heap[ob]? = some (.cells #[ov] 52 (0, 0)) ∧ W.ownsRow w0.heap.size 51 2 ov T.length (flatM (whoT T))
theorem Wk.below {w0 W W' : World} {bb ob mb : Nat} {T : By} (h : Wk w0 W bb ob mb T) (hb : Below W.heap.size W W') : Wk w0 W' bb ob mb T := by
  obtain ⟨ov, h1, h2⟩ := h.oc
  exact ⟨h.bl.trans (hb.mono h.bl.size), h.sz, h.b1, h.b2, h.b3, (hb.block _ (lt_of_blk h.bc)).trans h.bc, h.mp.below hb, ov, (hb.block _ (lt_of_blk h1)).trans h1, owns_below h2 hb⟩
theorem flatM_who (T : By) (m f : Bm) : flatM (whoT (T ++ [(m, f)])) = flatM (whoT T) ++ [.string m.1, .string m.2] := by
  rw [whoT_app, flatM_app]; simp [flatM]
theorem ByAt.block {w : World} {b : Nat} {T : By} (h : ByAt w b T) : ∃ es clock, w.heap[b]? = some (.map es clock) := by
  obtain ⟨es, clock, h1, _⟩ := h
  exact ⟨es, clock, h1⟩
theorem ByAt.ne {w : World} {b g : Nat} {T : By} {cs : Array Value} {t : TypeId} {fr : Nat × Nat} (h : ByAt w b T) (hg : w.heap[g]? = some (.cells cs t fr)) : g ≠ b := fun e => by
  obtain ⟨es, clock, h1⟩ := h.block
  subst e
  rw [h1] at hg
  cases hg
theorem ByAt.far {w w2 : World} {b B n : Nat} {T : By} {v : Value} {e : TypeId} {xs : List Value} (h : ByAt w b T) (hg : w.grownBy w2 (some b)) (ho : w.ownsRow B e 2 v n xs) : w2.ownsRow B e 2 v n xs :=
  owns_far ho hg fun g hv => by
    obtain ⟨hl, ⟨h1, _⟩ | ⟨g', cap, cur, e1, e2, e3, _⟩⟩ := ho
    · rw [h1] at hv; cases hv
    · rw [e1] at hv
      have : g' = g := by simpa [Value.ownBlock] using hv
      subst this
      intro e
      exact h.ne e3 (by simpa using e.symm)
/-- The walk's memory behind one more. -/
theorem Wk.more {w0 w1 w2 w3 : World} {bb ob mb : Nat} {T : By} {m f : Bm} {ov v' : Value} {o : Obj} (h : Wk w0 w1 bb ob mb T) (hm : m.1.size ≤ maxLen ∧ m.2.size ≤ maxLen) (o1 : w1.heap[ob]? = some (.cells #[ov] 52 (0, 0))) (o2 : w1.ownsRow w0.heap.size 51 2 ov T.length (flatM (whoT T)))
    (hown : w2.ownsMap Tryz.prog 51 rB mb (T.length + 1) ((datB T).put (kL m) (.held f))) (hg : w1.grownBy w2 (some mb)) (hown3 : w3.ownsRow w0.heap.size 51 2 v' (T.length + 1) (flatM (whoT T) ++ [.string m.1, .string m.2])) (hg3 : (w2.alloc o).grownBy w3 ov.ownBlock) :
    Wk w0 (w3.setCell ⟨ob, 0, none⟩ v') bb ob mb (T ++ [(m, f)]) := by
  have hs1 := h.bl.size
  have l1 := lt_of_blk h.bc
  have l2 := lt_of_blk o1
  obtain ⟨es, clock, hm1⟩ := ByAt.block h.mp
  have l3 := lt_of_blk hm1
  have n1 : bb ≠ mb := h.mp.ne h.bc
  have n2 : ob ≠ mb := h.mp.ne o1
  have n3 : bb ≠ ob := fun e => by
    subst e
    have := h.bc.symm.trans o1
    simp at this
  have o2' := h.mp.far hg o2
  have r1 : ov.ownBlock ≠ some bb := own_ne2 o2 h.bc (by decide)
  have r2 : ov.ownBlock ≠ some ob := own_ne2 o2 o1 (by decide)
  have r3 : ov.ownBlock ≠ some mb := fun e => by
    obtain ⟨hl, ⟨h1, _⟩ | ⟨g', cap, cur, e1, e2, e3, _⟩⟩ := o2
    · rw [h1] at e; cases e
    · rw [e1] at e
      have : g' = mb := by simpa [Value.ownBlock] using e
      exact h.mp.ne e3 this
  have sz2 := hg.size
  have step : ∀ b, b < w1.heap.size → b ≠ mb → ov.ownBlock ≠ some b → w3.heap[b]? = w1.heap[b]? := fun b hb hne hr => by
    rw [hg3.block b (by simp; omega) (fun e => hr e.symm), ((Below.refl w2.heap.size w2).alloc (Nat.le_refl _) o).block b (by omega), hg.block b hb (by simp [hne])]
  have q1 := (step bb l1 n1 r1).trans h.bc
  have q2 := (step ob l2 n2 r2).trans o1
  have q3 : w3.heap[mb]? = w2.heap[mb]? := by
    rw [hg3.block mb (by simp; omega) (fun e => r3 e.symm), ((Below.refl w2.heap.size w2).alloc (Nat.le_refl _) o).block mb (by omega)]
  have b2 : Below w0.heap.size w0 w2 := h.bl.grown hg hs1 (fun k hk => by cases hk; exact h.b3)
  have b3 : Below w0.heap.size w0 w3 := (b2.alloc b2.size o).grown hg3 (by simp; have := b2.size; omega) (fun k hk => (o2.lt k hk).1)
  refine ⟨b3.setCell (p := ⟨ob, 0, none⟩) h.b2 v', ?_, h.b1, h.b2, h.b3, keep_set q1 n3, ?_, v', ?_, ?_⟩
  · intro x hx
    rcases List.mem_append.1 hx with hx | hx
    · exact h.sz x hx
    · simp at hx; subst hx; exact hm
  · unfold ByAt
    rw [datB_app, List.length_append]
    obtain ⟨es2, clock2, h1, F, hs, hD⟩ := hown
    exact ⟨es2, clock2, by rw [Below.heap_setCell _ _ _ _ (Ne.symm n2), q3]; exact h1, F, hs, hD⟩
  · have := set_block (o := 0) (x := v') q2
    simpa using this
  · rw [flatM_who, List.length_append]
    exact owns_set hown3 (own_ne2 hown3 q2 (by decide))
set_option maxRecDepth 100000 in
set_option maxHeartbeats 2000000 in
theorem come_any (w0 W : World) (bb ob mb : Nat) (T : By) (m f : Bm) (hm : m.1.size ≤ maxLen ∧ m.2.size ≤ maxLen) (hl : T.length ≤ 1000) (h : Wk w0 W bb ob mb T) :
    Calls Tryz.prog 214 #[.agg #[.string m.1, .string m.2], .agg #[.string f.1, .string f.2], .pointer (some ⟨bb, 0, none⟩), .pointer (some ⟨ob, 0, none⟩)] W fun e w' => e = .returned (.tuple #[]) ∧ Wk w0 w' bb ob mb (comeT T m f) := by
  obtain ⟨i0, hi0, hz0, hz1, hz2⟩ := info_parts infoMod
  have HBa := hid (((Below.refl W.heap.size W).alloc (Nat.le_refl _) (.cells #[.string m.1, .string m.2] 51)).alloc (by simp) (.cells #[.string f.1, .string f.2] 51))
  have HW := hid (h.below HBa.out)
  have HC := hid (came_any mb T m _ hm HW.out.sz HW.out.mp)
  have c0 : ((W.alloc (.cells #[.string m.1, .string m.2] 51)).alloc (.cells #[.string f.1, .string f.2] 51)).cell? ⟨bb, 0, none⟩ = some (.map (some mb)) := by rw [Lib.cell_of_heap HW.out.bc]; rfl
  have HM := hid hm
  clear h hm
  go_enter Tryz.func214, Tryz.ntmps214
  go_wp2_with fail
  refine HC.out.mono ?_
  rintro e w1 ⟨rfl, hb⟩
  have HW1 := hid (HW.out.below hb)
  have e0 : w1.heap[W.heap.size]? = some (.cells #[.string m.1, .string m.2] 51 (0, 0)) := by
    rw [hb.block _ (by simp; omega)]; exact heap_old _ _ (heap_new W _)
  have e1 : w1.heap[W.heap.size + 1]? = some (.cells #[.string f.1, .string f.2] 51 (0, 0)) := by
    rw [hb.block _ (by simp)]
    have := heap_new (W.alloc (.cells #[.string m.1, .string m.2] 51)) (.cells #[.string f.1, .string f.2] 51)
    rw [show (W.alloc (.cells #[.string m.1, .string m.2] 51)).heap.size = W.heap.size + 1 by simp] at this
    exact this
  clear hb
  cases hc : cameB T m with
  | true =>
    go_wp2_with fail
    go_end0
    exact ⟨rfl, by rw [come_yes hc]; exact HW1.out⟩
  | false =>
    have HCN := hid hc
    obtain ⟨ov, o1, o2⟩ := HW1.out.oc
    have HO1 := hid o1
    have HO2 := hid o2
    have k0 : w1.cell? ⟨bb, 0, none⟩ = some (.map (some mb)) := by rw [Lib.cell_of_heap HW1.out.bc]; rfl
    have k1 : w1.cell? ⟨W.heap.size, 0, none⟩ = some (.string m.1) := by rw [Lib.cell_of_heap e0]; rfl
    have k2 : w1.cell? ⟨W.heap.size, 1, none⟩ = some (.string m.2) := by rw [Lib.cell_of_heap e0]; rfl
    have k3 : w1.cell? ⟨W.heap.size + 1, 0, none⟩ = some (.string f.1) := by rw [Lib.cell_of_heap e1]; rfl
    have k4 : w1.cell? ⟨W.heap.size + 1, 1, none⟩ = some (.string f.2) := by rw [Lib.cell_of_heap e1]; rfl
    have HE0 := hid e0
    clear o1 o2 e0 e1 hc c0
    go_wp2_with (at_mapUpdate; refine wpList_mapUpdate_own _ rfl _ _ _ 179 rfl 51 51 modKey Tryz.underlying179 rB mb T.length (datB T) rfl HW1.out.mp (by unfold maxLen; omega) (modV m) (modV f) (kL m) rfl rfl (keyOf_mod m HM.out.1 HM.out.2) (.held f) [] (rB_mod f) ?_)
    intro w2 hown hgrow
    have HOWN := hid hown
    have HGR := hid hgrow
    have n1 := HW1.out.mp.ne HE0.out
    have n2 := HW1.out.mp.ne HO1.out
    have j0 : w2.heap[W.heap.size]? = some (.cells #[.string m.1, .string m.2] 51 (0, 0)) := (hgrow.block _ (lt_of_blk HE0.out) (by simp [n1])).trans HE0.out
    have j1 : w2.heap[ob]? = some (.cells #[ov] 52 (0, 0)) := (hgrow.block _ (lt_of_blk HO1.out) (by simp [n2])).trans HO1.out
    have HOV := hid (HW1.out.mp.far hgrow HO2.out)
    obtain ⟨oa, oc, hov⟩ := own_slN HO2.out
    subst hov
    have i1 : w2.cell? ⟨W.heap.size, 0, none⟩ = some (.string m.1) := by rw [Lib.cell_of_heap j0]; rfl
    have i2 : w2.cell? ⟨W.heap.size, 1, none⟩ = some (.string m.2) := by rw [Lib.cell_of_heap j0]; rfl
    have i3 : w2.cell? ⟨ob, 0, none⟩ = some (.slice oa T.length oc) := by rw [Lib.cell_of_heap j1]; rfl
    have HJ1 := hid j1
    have HNE := hid (own_ne2 HOV.out j1 (by decide))
    have hsz := HW1.out.bl.size
    have hsz2 := hgrow.size
    clear hown hgrow j0 j1 k0 k1 k2 k3 k4 n1 n2
    go_wp2_with (at_builtin; refine wpList_append_own _ rfl _ _ 52 rfl w0.heap.size 51 i0 _ 2 32 Tryz.underlying52 hi0 hz0 hz1 hz2 rfl (by decide) _ _ _ rfl (HOV.out.alloc _) ⟨w2.heap.size, 0, none⟩ 1 1 [.string m.1, .string m.2] rfl rfl ?c1 ?c2 ?c3 ?c4 ?c5 ?_)
    case c1 => exact World.news_of_block (cs := #[.string m.1, .string m.2]) (t := 51) (fr := (0, 0)) (heap_alloc_new w2 _)
    case c2 =>
      intro u hu
      simp at hu
      rcases hu with rfl | rfl <;> rfl
    case c3 => unfold maxLen; omega
    case c4 => omega
    case c5 => simp; omega
    intro v' w3 hown3 hgrow3 _
    have HF := hid (HW1.out.more HM.out HO1.out HO2.out HOWN.out HGR.out hown3 hgrow3)
    have q2 : w3.heap[ob]? = some (.cells #[.slice oa T.length oc] 52 (0, 0)) := by
      rw [hgrow3.block ob (by have := lt_of_blk HJ1.out; simp; omega) (fun e => HNE.out e.symm), ((Below.refl w2.heap.size w2).alloc (Nat.le_refl _) _).block ob (lt_of_blk HJ1.out)]
      exact HJ1.out
    have i4 : w3.cell? ⟨ob, 0, none⟩ = some (.slice oa T.length oc) := by rw [Lib.cell_of_heap q2]; rfl
    have i5 : w3.frozen? ⟨ob, 0, none⟩ = false := by simp [World.frozen?, q2]
    obtain ⟨va, vc, hv⟩ := own_slN hown3
    subst hv
    clear hown3 hgrow3 q2 i1 i2 i3
    go_wp2_with fail
    go_end0
    exact ⟨rfl, by rw [come_no HCN.out]; exact HF.out⟩
end Ve
end Go.Proofs.YtanponneancajaaGreatDoor
