/-
  What the function inside graph.walk does: one more comes, or has come already.
-/
import Derived.Test.YtanponneancajaaGreatDoorBn2
import Derived.Test.YtanponneancajaaGreatDoorBn1
import Derived.Deep.DeepCutAuto
import Derived.Test.YtanponneancajaaGreatDoorProg
import Derived.Test.YtanponneancajaaGreatDoorOrdD
import Derived.Test.YtanponneancajaaGreatDoorLessAny
import Derived.Test.YtanponneancajaaGreatDoorFileQ
import Derived.Laws.OwnMore
namespace Go.Proofs.YtanponneancajaaGreatDoor
open Go.RowKit Go.Maps
namespace Ve

/-- The walk's memory: the boxes of the map and of the order, the map, the order. -/
structure Wk (w0 W : World) (bb ob mb : Nat) (T : By) : Prop where
  bl : Below w0.heap.size w0 W
  sz : szT T
  b1 : w0.heap.size ≤ bb
  b2 : w0.heap.size ≤ ob
  b3 : w0.heap.size ≤ mb
  bc : W.heap[bb]? = some (.cells #[.map (some mb)] 179 (0, 0))
  mp : ByAt W mb T
  oc : ∃ ov, W.heap[ob]? = some (.cells #[ov] 52 (0, 0)) ∧ W.ownsRow w0.heap.size 51 2 ov T.length (flatM (whoT T))
theorem Wk.below {w0 W W' : World} {bb ob mb : Nat} {T : By} (h : Wk w0 W bb ob mb T) (hb : Below W.heap.size W W') : Wk w0 W' bb ob mb T := by
  obtain ⟨ov, h1, h2⟩ := h.oc
  exact ⟨h.bl.trans (hb.mono h.bl.size), h.sz, h.b1, h.b2, h.b3, (hb.block _ (lt_of_blk h.bc)).trans h.bc, h.mp.below hb, ov, (hb.block _ (lt_of_blk h1)).trans h1, owns_below h2 hb⟩
theorem flatM_who (T : By) (m f : Bm) : flatM (whoT (T ++ [(m, f)])) = flatM (whoT T) ++ [.string m.1, .string m.2] := by
  rw [whoT_app, flatM_app]; simp [flatM]
theorem ByAt.block {w : World} {b : Nat} {T : By} (h : ByAt w b T) : ∃ es clock, w.heap[b]? = some (.map es clock) := by
  obtain ⟨es, clock, h1, _⟩ := h
  exact ⟨es, clock, h1⟩
theorem ByAt.ne {w : World} {b g : Nat} {T : By} {cs : Array Value} {t : TypeId} {fr : Nat × Nat} (h : ByAt w b T) (hg : w.heap[g]? = some (.cells cs t fr)) : g ≠ b := fun e => by
  obtain ⟨es, clock, h1⟩ := h.block
  subst e
  rw [h1] at hg
  cases hg
theorem ByAt.far {w w2 : World} {b B n : Nat} {T : By} {v : Value} {e : TypeId} {xs : List Value} (h : ByAt w b T) (hg : w.grownBy w2 (some b)) (ho : w.ownsRow B e 2 v n xs) : w2.ownsRow B e 2 v n xs :=
  owns_far ho hg fun g hv => by
    obtain ⟨hl, ⟨h1, _⟩ | ⟨g', cap, cur, e1, e2, e3, _⟩⟩ := ho
    · rw [h1] at hv; cases hv
    · rw [e1] at hv
      have : g' = g := by simpa [Value.ownBlock] using hv
      subst this
      intro e
      exact h.ne e3 (by simpa using e.symm)
/-- The walk's memory behind one more. -/
theorem Wk.more {w0 w1 w2 w3 : World} {bb ob mb : Nat} {T : By} {m f : Bm} {ov v' : Value} {o : Obj} (h : Wk w0 w1 bb ob mb T) (hm : m.1.size ≤ maxLen ∧ m.2.size ≤ maxLen) (o1 : w1.heap[ob]? = some (.cells #[ov] 52 (0, 0))) (o2 : w1.ownsRow w0.heap.size 51 2 ov T.length (flatM (whoT T)))
    (hown : w2.ownsMap Tryz.prog 51 rB mb (T.length + 1) ((datB T).put (kL m) (.held f))) (hg : w1.grownBy w2 (some mb)) (hown3 : w3.ownsRow w0.heap.size 51 2 v' (T.length + 1) (flatM (whoT T) ++ [.string m.1, .string m.2])) (hg3 : (w2.alloc o).grownBy w3 ov.ownBlock) :
    Wk w0 (w3.setCell ⟨ob, 0, none⟩ v') bb ob mb (T ++ [(m, f)]) := by
  have hs1 := h.bl.size
  have l1 := lt_of_blk h.bc
  have l2 := lt_of_blk o1
  obtain ⟨es, clock, hm1⟩ := ByAt.block h.mp
  have l3 := lt_of_blk hm1
  have n1 : bb ≠ mb := h.mp.ne h.bc
  have n2 : ob ≠ mb := h.mp.ne o1
  have n3 : bb ≠ ob := fun e => by
    subst e
    have := h.bc.symm.trans o1
    simp at this
  have o2' := h.mp.far hg o2
  have r1 : ov.ownBlock ≠ some bb := own_ne2 o2 h.bc (by decide)
  have r2 : ov.ownBlock ≠ some ob := own_ne2 o2 o1 (by decide)
  have r3 : ov.ownBlock ≠ some mb := fun e => by
    obtain ⟨hl, ⟨h1, _⟩ | ⟨g', cap, cur, e1, e2, e3, _⟩⟩ := o2
    · rw [h1] at e; cases e
    · rw [e1] at e
      have : g' = mb := by simpa [Value.ownBlock] using e
      exact h.mp.ne e3 this
  have sz2 := hg.size
  have step : ∀ b, b < w1.heap.size → b ≠ mb → ov.ownBlock ≠ some b → w3.heap[b]? = w1.heap[b]? := fun b hb hne hr => by
    rw [hg3.block b (by simp; omega) (fun e => hr e.symm), ((Below.refl w2.heap.size w2).alloc (Nat.le_refl _) o).block b (by omega), hg.block b hb (by simp [hne])]
  have q1 := (step bb l1 n1 r1).trans h.bc
  have q2 := (step ob l2 n2 r2).trans o1
  have q3 : w3.heap[mb]? = w2.heap[mb]? := by
    rw [hg3.block mb (by simp; omega) (fun e => r3 e.symm), ((Below.refl w2.heap.size w2).alloc (Nat.le_refl _) o).block mb (by omega)]
  have b2 : Below w0.heap.size w0 w2 := h.bl.grown hg hs1 (fun k hk => by cases hk; exact h.b3)
  have b3 : Below w0.heap.size w0 w3 := (b2.alloc b2.size o).grown hg3 (by simp; have := b2.size; omega) (fun k hk => (o2.lt k hk).1)
  refine ⟨b3.setCell (p := ⟨ob, 0, none⟩) h.b2 v', ?_, h.b1, h.b2, h.b3, keep_set q1 n3, ?_, v', ?_, ?_⟩
  · intro x hx
    rcases List.mem_append.1 hx with hx | hx
    · exact h.sz x hx
    · simp at hx; subst hx; exact hm
  · unfold ByAt
    rw [datB_app, List.length_append]
    obtain ⟨es2, clock2, h1, F, hs, hD⟩ := hown
    exact ⟨es2, clock2, by rw [Below.heap_setCell _ _ _ _ (Ne.symm n2), q3]; exact h1, F, hs, hD⟩
  · have := set_block (o := 0) (x := v') q2
    simpa using this
  · rw [flatM_who, List.length_append]
    exact owns_set hown3 (own_ne2 hown3 q2 (by decide))
set_option maxRecDepth 100000 in
set_option maxHeartbeats 2000000 in
theorem come_any (w0 W : World) (bb ob mb : Nat) (T : By) (m f : Bm) (hm : m.1.size ≤ maxLen ∧ m.2.size ≤ maxLen) (hl : T.length ≤ 1000) (h : Wk w0 W bb ob mb T) :
    Calls Tryz.prog 214 #[.agg #[.string m.1, .string m.2], .agg #[.string f.1, .string f.2], .pointer (some ⟨bb, 0, none⟩), .pointer (some ⟨ob, 0, none⟩)] W fun e w' => e = .returned (.tuple #[]) ∧ Wk w0 w' bb ob mb (comeT T m f) := by
  obtain ⟨i0, hi0, hz0, hz1, hz2⟩ := info_parts infoMod
  have HBa := hid (((Below.refl W.heap.size W).alloc (Nat.le_refl _) (.cells #[.string m.1, .string m.2] 51)).alloc (by simp) (.cells #[.string f.1, .string f.2] 51))
  have HW := hid (h.below HBa.out)
  have HC := hid (came_any mb T m _ hm HW.out.sz HW.out.mp)
  have c0 : ((W.alloc (.cells #[.string m.1, .string m.2] 51)).alloc (.cells #[.string f.1, .string f.2] 51)).cell? ⟨bb, 0, none⟩ = some (.map (some mb)) := by rw [Lib.cell_of_heap HW.out.bc]; rfl
  have HM := hid hm
  clear h hm
  go_enter Tryz.func214, Tryz.ntmps214
  go_wp2_with fail
  refine HC.out.mono ?_
  rintro e w1 ⟨rfl, hb⟩
  have HW1 := hid (HW.out.below hb)
  have e0 : w1.heap[W.heap.size]? = some (.cells #[.string m.1, .string m.2] 51 (0, 0)) := by
    rw [hb.block _ (by simp; omega)]; exact heap_old _ _ (heap_new W _)
  have e1 : w1.heap[W.heap.size + 1]? = some (.cells #[.string f.1, .string f.2] 51 (0, 0)) := by
    rw [hb.block _ (by simp)]
    have := heap_new (W.alloc (.cells #[.string m.1, .string m.2] 51)) (.cells #[.string f.1, .string f.2] 51)
    rw [show (W.alloc (.cells #[.string m.1, .string m.2] 51)).heap.size = W.heap.size + 1 by simp] at this
    exact this
  clear hb
  cases hc : cameB T m with
  | true =>
    go_wp2_with fail
    go_end0
    exact ⟨rfl, by rw [come_yes hc]; exact HW1.out⟩
  | false =>
    have HCN := hid hc
    obtain ⟨ov, o1, o2⟩ := HW1.out.oc
    have HO1 := hid o1
    have HO2 := hid o2
    have k0 : w1.cell? ⟨bb, 0, none⟩ = some (.map (some mb)) := by rw [Lib.cell_of_heap HW1.out.bc]; rfl
    have k1 : w1.cell? ⟨W.heap.size, 0, none⟩ = some (.string m.1) := by rw [Lib.cell_of_heap e0]; rfl
    have k2 : w1.cell? ⟨W.heap.size, 1, none⟩ = some (.string m.2) := by rw [Lib.cell_of_heap e0]; rfl
    have k3 : w1.cell? ⟨W.heap.size + 1, 0, none⟩ = some (.string f.1) := by rw [Lib.cell_of_heap e1]; rfl
    have k4 : w1.cell? ⟨W.heap.size + 1, 1, none⟩ = some (.string f.2) := by rw [Lib.cell_of_heap e1]; rfl
    have HE0 := hid e0
    clear o1 o2 e0 e1 hc c0
    go_wp2_with (at_mapUpdate; refine wpList_mapUpdate_own _ rfl _ _ _ 179 rfl 51 51 modKey Tryz.underlying179 rB mb T.length (datB T) rfl HW1.out.mp (by unfold maxLen; omega) (modV m) (modV f) (kL m) rfl rfl (keyOf_mod m HM.out.1 HM.out.2) (.held f) [] (rB_mod f) ?_)
    intro w2 hown hgrow
    have HOWN := hid hown
    have HGR := hid hgrow
    have n1 := HW1.out.mp.ne HE0.out
    have n2 := HW1.out.mp.ne HO1.out
    have j0 : w2.heap[W.heap.size]? = some (.cells #[.string m.1, .string m.2] 51 (0, 0)) := (hgrow.block _ (lt_of_blk HE0.out) (by simp [n1])).trans HE0.out
    have j1 : w2.heap[ob]? = some (.cells #[ov] 52 (0, 0)) := (hgrow.block _ (lt_of_blk HO1.out) (by simp [n2])).trans HO1.out
    have HOV := hid (HW1.out.mp.far hgrow HO2.out)
    obtain ⟨oa, oc, hov⟩ := own_slN HO2.out
    subst hov
    have i1 : w2.cell? ⟨W.heap.size, 0, none⟩ = some (.string m.1) := by rw [Lib.cell_of_heap j0]; rfl
    have i2 : w2.cell? ⟨W.heap.size, 1, none⟩ = some (.string m.2) := by rw [Lib.cell_of_heap j0]; rfl
    have i3 : w2.cell? ⟨ob, 0, none⟩ = some (.slice oa T.length oc) := by rw [Lib.cell_of_heap j1]; rfl
    have HJ1 := hid j1
    have HNE := hid (own_ne2 HOV.out j1 (by decide))
    have hsz := HW1.out.bl.size
    have hsz2 := hgrow.size
    clear hown hgrow j0 j1 k0 k1 k2 k3 k4 n1 n2
    go_wp2_with (at_builtin; refine wpList_append_own _ rfl _ _ 52 rfl w0.heap.size 51 i0 _ 2 32 Tryz.underlying52 hi0 hz0 hz1 hz2 rfl (by decide) _ _ _ rfl (HOV.out.alloc _) ⟨w2.heap.size, 0, none⟩ 1 1 [.string m.1, .string m.2] rfl rfl ?c1 ?c2 ?c3 ?c4 ?c5 ?_)
    case c1 => exact World.news_of_block (cs := #[.string m.1, .string m.2]) (t := 51) (fr := (0, 0)) (heap_alloc_new w2 _)
    case c2 =>
      intro u hu
      simp at hu
      rcases hu with rfl | rfl <;> rfl
    case c3 => unfold maxLen; omega
    case c4 => omega
    case c5 => simp; omega
    intro v' w3 hown3 hgrow3 _
    have HF := hid (HW1.out.more HM.out HO1.out HO2.out HOWN.out HGR.out hown3 hgrow3)
    have q2 : w3.heap[ob]? = some (.cells #[.slice oa T.length oc] 52 (0, 0)) := by
      rw [hgrow3.block ob (by have := lt_of_blk HJ1.out; simp; omega) (fun e => HNE.out e.symm), ((Below.refl w2.heap.size w2).alloc (Nat.le_refl _) _).block ob (lt_of_blk HJ1.out)]
      exact HJ1.out
    have i4 : w3.cell? ⟨ob, 0, none⟩ = some (.slice oa T.length oc) := by rw [Lib.cell_of_heap q2]; rfl
    have i5 : w3.frozen? ⟨ob, 0, none⟩ = false := by simp [World.frozen?, q2]
    obtain ⟨va, vc, hv⟩ := own_slN hown3
    subst hv
    clear hown3 hgrow3 q2 i1 i2 i3
    go_wp2_with fail
    go_end0
    exact ⟨rfl, by rw [come_no HCN.out]; exact HF.out⟩
end Ve
end Go.Proofs.YtanponneancajaaGreatDoor

/-
  What graph.walk answers.
-/
namespace Go.Proofs.YtanponneancajaaGreatDoor
open Go.RowKit Go.Maps
namespace Ve

/-- The modules of an index. -/
def univ (L : List Ent) : List Bm := L.map fun e => e.1
theorem univ_len (L : List Ent) : (univ L).length = L.length := by simp [univ]
/-- Whom a module of an index requires. -/
def reqQ (Q : List Raw) (L : List Ent) (m : Bm) : List Bm := if idxOf (isM m) Q < 0 then [] else ((L[(idxOf (isM m) Q).toNat]?).map fun e => e.2.1).getD []
theorem ixs_get {w : World} {v : Value} {Q : List Raw} {L : List Ent} (I : Ixs w v Q L) {j : Nat} (hj : j < Q.length) : ∃ hj' : j < L.length, Q[j].1 = L[j].1 := by
  have hj' : j < L.length := by rw [← I.ln]; exact hj
  exact ⟨hj', (I.ok j hj hj').m⟩
theorem isM_iff {m : Bm} {r : Raw} : isM m r = true ↔ r.1 = m := by
  unfold isM
  constructor
  · intro h; have h2 := of_decide_eq_true h; exact Prod.ext h2.1 h2.2
  · intro h; exact decide_eq_true (by rw [h]; exact ⟨rfl, rfl⟩)
theorem idx_nat (P : Raw → Bool) (Q : List Raw) : idxOf P Q = -1 ∨ ∃ k : Nat, idxOf P Q = (k : Int) := by
  unfold idxOf
  cases fstE (idxE P Q) Q.length with
  | none => exact Or.inl rfl
  | some k => exact Or.inr ⟨k, rfl⟩
theorem idx_none {P : Raw → Bool} {Q : List Raw} (h : idxOf P Q = -1) : ∀ r, r ∈ Q → P r = false := fun r hr => by
  obtain ⟨j, hj, rfl⟩ := List.getElem_of_mem hr
  unfold idxOf at h
  cases h1 : fstE (idxE P Q) Q.length with
  | some k => rw [h1] at h; simp only at h; omega
  | none =>
    have := fstE_of_none h1 j hj
    rw [idxE_at hj] at this
    cases hp : P Q[j] with
    | false => rfl
    | true => rw [hp] at this; simp at this
/-- What is found is a module of the index. -/
theorem found_iff {w : World} {v : Value} {Q : List Raw} {L : List Ent} (I : Ixs w v Q L) (m : Bm) : m ∈ univ L ↔ ∃ k : Nat, idxOf (isM m) Q = (k : Int) := by
  constructor
  · intro h
    rcases idx_nat (isM m) Q with h1 | h1
    · obtain ⟨e, he, rfl⟩ := List.mem_map.1 h
      obtain ⟨j, hj, rfl⟩ := List.getElem_of_mem he
      have hj2 : j < Q.length := by rw [I.ln]; exact hj
      have := idx_none h1 Q[j] (List.getElem_mem hj2)
      rw [isM_iff.2 (I.ok j hj2 hj).m] at this
      cases this
    · exact h1
  · rintro ⟨k, h⟩
    obtain ⟨hk, h1⟩ := idx_is h
    obtain ⟨hk', h2⟩ := ixs_get I hk
    exact List.mem_map.2 ⟨L[k], List.getElem_mem hk', by rw [← h2]; exact isM_iff.1 h1⟩
theorem reqQ_at {Q : List Raw} {L : List Ent} {m : Bm} {k : Nat} (h : idxOf (isM m) Q = (k : Int)) (hk : k < L.length) : reqQ Q L m = L[k].2.1 := by
  unfold reqQ
  rw [h, if_neg (by omega), Int.toNat_natCast, List.getElem?_eq_getElem hk]
  rfl

set_option maxRecDepth 100000 in
set_option maxHeartbeats 2000000 in
theorem walk_any (Q : List Raw) (L : List Ent) (roots : List Bm) (v rv : Value) (w : World) (hn : L.length ≤ 1000) (hrn : roots.length ≤ 1000000) (I : Ixs w v Q L) (hr : MsAt w rv roots) (hz : ∀ m, m ∈ univ L → m.1.size ≤ maxLen ∧ m.2.size ≤ maxLen) (hrl : ∀ e, e ∈ L → e.2.1.length ≤ 1000000)
    (hru : ∀ m, m ∈ roots → m ∈ univ L) (hlu : ∀ m, m ∈ univ L → ∀ x, x ∈ reqQ Q L m → x ∈ univ L) :
    Calls Tryz.prog 167 #[v, rv] w fun e w' => ∃ b, e = .returned (.map (some b)) ∧ ∃ T, ByAt w' b T ∧ szT T ∧ Came (reqQ Q L) (univ L) roots T ∧ Below w.heap.size w w' := by
  obtain ⟨a, c, hv, -⟩ := id I.es
  subst hv
  obtain ⟨ra, rc, hrv, -⟩ := id hr
  subst hrv
  have HI := hid I
  have HR := hid hr
  have HZ := hid hz
  have HRL := hid hrl
  have HRU := hid hru
  have HLU := hid hlu
  have eg : ∀ args w, (callFunc 214 args).run Tryz.prog w = .ok (.enter 214 args) w := enters_of Tryz.func214 (by kernel_rfl) rfl
  have hmk : ∀ W : World, (Instr.makeMap 179 none).run Tryz.prog W = .ok (.map (some W.heap.size)) (W.alloc (.map #[] 0)) := fun W => run_makeMap 179 W
  clear I hr hz hrl hru hlu
  go_enter Tryz.func167, Tryz.ntmps167
  go_wp2_with fail
  have HW0 := hid (show Wk w (((w.alloc (.map #[] 0)).alloc (.cells #[.map (some w.heap.size)] 179)).alloc (.cells #[.slice none 0 0] 52)) (w.heap.size + 1) (w.heap.size + 1 + 1) w.heap.size [] by
    have b1 := (Below.refl w.heap.size w).alloc (Nat.le_refl _) (.map #[] 0)
    have b2 := b1.alloc (by simp) (.cells #[.map (some w.heap.size)] 179)
    have b3 := b2.alloc (by simp; omega) (.cells #[.slice none 0 0] 52)
    have c1 := (Below.refl (w.alloc (.map #[] 0)).heap.size (w.alloc (.map #[] 0))).alloc (Nat.le_refl _) (.cells #[.map (some w.heap.size)] 179)
    have c2 := (Below.refl ((w.alloc (.map #[] 0)).alloc (.cells #[.map (some w.heap.size)] 179)).heap.size ((w.alloc (.map #[] 0)).alloc (.cells #[.map (some w.heap.size)] 179))).alloc (Nat.le_refl _) (.cells #[.slice none 0 0] 52)
    have m0 : ByAt (w.alloc (.map #[] 0)) w.heap.size [] := World.ownsMap_made w Tryz.prog 51 rB
    have h1 := heap_new (w.alloc (.map #[] 0)) (.cells #[.map (some w.heap.size)] 179)
    have h2 := heap_new ((w.alloc (.map #[] 0)).alloc (.cells #[.map (some w.heap.size)] 179)) (.cells #[.slice none 0 0] 52)
    have s1 : (w.alloc (.map #[] 0)).heap.size = w.heap.size + 1 := by simp
    have s2 : ((w.alloc (.map #[] 0)).alloc (.cells #[.map (some w.heap.size)] 179)).heap.size = w.heap.size + 1 + 1 := by simp
    rw [s1] at h1
    rw [s2] at h2
    exact ⟨b3, fun x hx => (by cases hx), by omega, by omega, by omega, heap_old _ _ h1, (m0.below c1).below c2, _, h2, World.ownsRow_nil _ _ _ _⟩)
  generalize hW0 : ((w.alloc (.map #[] 0)).alloc (.cells #[.map (some w.heap.size)] 179)).alloc (.cells #[.slice none 0 0] 52) = W0 at *
  clear hW0
  go_loopw [17] (fun iv wr => ∃ k : Nat, k ≤ roots.length ∧ iv = .int .i64 k ∧ Hid (∃ T, Wk w wr (w.heap.size + 1) (w.heap.size + 1 + 1) w.heap.size T ∧ Bfs (reqQ Q L) (univ L) roots T 0 ∧ (∀ m, m ∈ roots.take k → m ∈ whoT T) ∧ ∃ V, LvOk (reqQ Q L) roots T 0 V ∧ ∀ k (hk : k < V.length), V[k] = 1)) (fun i _ => roots.length - (intOf i).toNat)
  case atStart => exact ⟨0, Nat.zero_le _, rfl, hid ⟨[], HW0.out, Bfs.none _ _ _, fun m hm => by simp at hm, [], LvOk.none _ _, fun _ h => absurd h (Nat.not_lt_zero _)⟩⟩
  case round =>
    obtain ⟨k, hk, rfl, HT⟩ := hrel
    by_cases hlt : k < roots.length
    · obtain ⟨T, hT⟩ := HT.out
      have HTT := hid hT
      have HRM := hid (HR.out.below hT.1.bl)
      obtain ⟨rb, ro, hra, hcc⟩ := HRM.out.cells hlt
      subst hra
      have x0 := hcc.1
      have x1 := hcc.2
      have HMU := hid (HRU.out roots[k] (List.getElem_mem hlt))
      have HMR := hid (List.getElem_mem hlt)
      have HTK := hid (show ∀ x, x ∈ roots.take (k + 1) → x ∈ roots.take k ∨ x = roots[k] from fun x hx => by
        rw [List.take_succ_eq_append_getElem hlt] at hx
        rcases List.mem_append.1 hx with h | h
        · exact Or.inl h
        · exact Or.inr (List.mem_singleton.1 h))
      have HLT := hid hlt
      have hkI : (k : Int) < (roots.length : Int) := by omega
      clear hT hcc
      generalize roots[k] = m at *
      clear hlt
      have HBa := hid ((Below.refl wr.heap.size wr).alloc (Nat.le_refl _) (.cells #[.string m.1, .string m.2] 51))
      have HCO := hid (come_any w _ (w.heap.size + 1) (w.heap.size + 1 + 1) w.heap.size T m m (HZ.out m HMU.out) (by have := HTT.out.2.1.len; rw [univ_len] at this; omega) (HTT.out.1.below HBa.out))
      go_wp2_with fail
      refine HCO.out.mono ?_
      rintro e w1 ⟨rfl, hk1⟩
      have HN := hid (show ∃ T, Wk w w1 (w.heap.size + 1) (w.heap.size + 1 + 1) w.heap.size T ∧ Bfs (reqQ Q L) (univ L) roots T 0 ∧ (∀ m, m ∈ roots.take (k + 1) → m ∈ whoT T) ∧ ∃ V, LvOk (reqQ Q L) roots T 0 V ∧ ∀ k (hk : k < V.length), V[k] = 1 from
        ⟨_, hk1, HTT.out.2.1.come HMU.out (Or.inl ⟨rfl, HMR.out⟩), fun x hx => by
          rcases HTK.out x hx with h | rfl
          · exact come_sub (HTT.out.2.2.1 x h)
          · exact come_mem _ _ _, by
          obtain ⟨V, h1, h2⟩ := HTT.out.2.2.2
          exact h1.root h2 HMR.out⟩)
      clear hk1
      go_wp2_with fail
      go_roundw
      case rel => exact ⟨k + 1, HLT.out, nr_idx k, HN⟩
      case measure => exact nr_meas HLT.out
    · have HALL := hid (show ∃ T, Wk w wr (w.heap.size + 1) (w.heap.size + 1 + 1) w.heap.size T ∧ Bfs (reqQ Q L) (univ L) roots T 0 ∧ (∀ m, m ∈ roots → m ∈ whoT T) ∧ ∃ V, LvOk (reqQ Q L) roots T 0 V by
        have := HT.out
        rw [List.take_of_length_le (by omega)] at this
        obtain ⟨T, h1, h2, h3, V, h4, _⟩ := this
        exact ⟨T, h1, h2, h3, V, h4⟩)
      have hkI : ¬ (k : Int) < (roots.length : Int) := by omega
      clear HT hlt
      go_wp2_with fail
      go_loopw [10] (fun iv wr => ∃ i : Nat, iv = .int .i64 i ∧ Hid (∃ T, Wk w wr (w.heap.size + 1) (w.heap.size + 1 + 1) w.heap.size T ∧ Bfs (reqQ Q L) (univ L) roots T i ∧ (∀ m, m ∈ roots → m ∈ whoT T) ∧ ∃ V, LvOk (reqQ Q L) roots T i V)) (fun i _ => L.length - (intOf i).toNat)
      case atStart => exact ⟨0, rfl, HALL⟩
      case round =>
        obtain ⟨i, rfl, HA⟩ := hrel
        obtain ⟨T, hT⟩ := HA.out
        have HTT := hid hT
        obtain ⟨ov, o1, o2⟩ := hT.1.oc
        have hTl : T.length ≤ L.length := by have := hT.2.1.len; rw [univ_len] at this; exact this
        obtain ⟨oa, oc, hov⟩ := own_slN o2
        subst hov
        have z0 : wr.cell? ⟨w.heap.size + 1 + 1, 0, none⟩ = some (.slice oa T.length oc) := by rw [Lib.cell_of_heap o1]; rfl
        have HO2 := hid o2
        clear hT o1 o2 HA
        by_cases hlt : i < T.length
        · have hiI : (i : Int) < (T.length : Int) := by omega
          obtain ⟨b1, o1, hoa, yy0, yy1⟩ := (own_ms (L := whoT T) (by rw [whoT_len]; exact HO2.out)).cells (k := i) (by rw [whoT_len]; exact hlt)
          subst hoa
          rw [whoT_get hlt] at yy0 yy1
          have HLT := hid hlt
          have HOU := hid (HTT.out.2.1.un T[i].1 (whoT_mem.2 ⟨i, hlt, rfl⟩))
          have HOM := hid (show T[i].1 ∈ whoT T from whoT_mem.2 ⟨i, hlt, rfl⟩)
          obtain ⟨o, ho, y0, y1, hou, hom⟩ : ∃ o, T[i].1 = o ∧ wr.cell? ⟨b1, o1 + i * 2, none⟩ = some (.string o.1) ∧ wr.cell? ⟨b1, o1 + i * 2 + 1, none⟩ = some (.string o.2) ∧ o ∈ univ L ∧ o ∈ whoT T := ⟨_, rfl, yy0, yy1, HOU.out, HOM.out⟩
          clear yy0 yy1 HOU HOM
          have HOU := hid hou
          have HOM := hid hom
          have HOI := hid (show ∃ h : i < T.length, (T[i]'h).1 = o from ⟨hlt, ho⟩)
          clear hou hom
          obtain ⟨kq, hkq⟩ := (found_iff HI.out o).1 HOU.out
          obtain ⟨hkl, -⟩ := idx_is hkq
          have hkl2 : kq < L.length := by rw [← HI.out.ln]; exact hkl
          have HFI := hid (find_any Q o (.slice a Q.length c) wr (by rw [HI.out.ln]; omega) (HI.out.below HTT.out.1.bl).es)
          rw [hkq] at HFI
          have HRQ := hid (reqQ_at hkq hkl2)
          have hkI : (kq : Int) < (Q.length : Int) := by omega
          have hk0 : (0 : Int) ≤ (kq : Int) := by omega
          have HES := hid (fun W (h : Below w.heap.size w W) => es_cells (HI.out.below h).es hkl)
          have HMS := hid (fun W (h : Below w.heap.size w W) => ((HI.out.below h).ok kq hkl hkl2).rq)
          have hrl2 := HRL.out L[kq] (List.getElem_mem hkl2)
          generalize (L[kq]'hkl2).2.1 = R at *
          generalize (Q[kq]'hkl).2.1 = qv at *
          obtain ⟨qa, qc, hqv, -⟩ := HMS.out w (Below.refl _ _)
          subst hqv
          clear hkq hkl hkl2 ho hlt
          go_wp2_with fail
          refine HFI.out.mono ?_
          rintro e w1 ⟨rfl, hb⟩
          have HW1 := hid (HTT.out.1.below hb)
          obtain ⟨eb, eo, ha, x2⟩ := HES.out w1 HW1.out.bl
          subst ha
          clear hb HFI
          go_wp2_with fail
          have HMS1 := hid (HMS.out w1 HW1.out.bl)
          have HST := hid (show ∃ T', Wk w w1 (w.heap.size + 1) (w.heap.size + 1 + 1) w.heap.size T' ∧ Bfs (reqQ Q L) (univ L) roots T' i ∧ (∀ m, m ∈ roots → m ∈ whoT T') ∧ (∃ h : i < T'.length, (T'[i]'h).1 = o) ∧ (∀ m, m ∈ R.take 0 → m ∈ whoT T') ∧ ∃ V, LvOk (reqQ Q L) roots T' i V from
            ⟨T, HW1.out, HTT.out.2.1, HTT.out.2.2.1, HOI.out, fun m hm => by simp at hm, HTT.out.2.2.2⟩)
          clear HW1 HTT x2 y0 y1 z0
          go_loopw [43] (fun iv wr => ∃ k : Nat, k ≤ R.length ∧ iv = .int .i64 k ∧ Hid (∃ T', Wk w wr (w.heap.size + 1) (w.heap.size + 1 + 1) w.heap.size T' ∧ Bfs (reqQ Q L) (univ L) roots T' i ∧ (∀ m, m ∈ roots → m ∈ whoT T') ∧ (∃ h : i < T'.length, (T'[i]'h).1 = o) ∧ (∀ m, m ∈ R.take k → m ∈ whoT T') ∧ ∃ V, LvOk (reqQ Q L) roots T' i V)) (fun i _ => R.length - (intOf i).toNat)
          case atStart => exact ⟨0, Nat.zero_le _, rfl, HST⟩
          case round =>
            obtain ⟨k2, hk2, rfl, HS2⟩ := hrel
            by_cases hlt : k2 < R.length
            · obtain ⟨T2, hT2⟩ := HS2.out
              have HT2 := hid hT2
              obtain ⟨qb, qo, hqa, xx0, xx1⟩ := (HMS.out wr hT2.1.bl).cells hlt
              subst hqa
              have HMR := hid (show R[k2] ∈ reqQ Q L o by rw [HRQ.out]; exact List.getElem_mem hlt)
              have HTK := hid (show ∀ x, x ∈ R.take (k2 + 1) → x ∈ R.take k2 ∨ x = R[k2] from fun x hx => by
                rw [List.take_succ_eq_append_getElem hlt] at hx
                rcases List.mem_append.1 hx with h | h
                · exact Or.inl h
                · exact Or.inr (List.mem_singleton.1 h))
              have HLT2 := hid hlt
              have hkI2 : (k2 : Int) < (R.length : Int) := by omega
              obtain ⟨m, hm, x0, x1, hmr, htk⟩ : ∃ m, R[k2] = m ∧ wr.cell? ⟨qb, qo + k2 * 2, none⟩ = some (.string m.1) ∧ wr.cell? ⟨qb, qo + k2 * 2 + 1, none⟩ = some (.string m.2) ∧ m ∈ reqQ Q L o ∧ ∀ x, x ∈ R.take (k2 + 1) → x ∈ R.take k2 ∨ x = m := ⟨_, rfl, xx0, xx1, HMR.out, HTK.out⟩
              clear HMR HTK xx0 xx1
              have HMR := hid hmr
              have HTK := hid htk
              have HMU := hid (HLU.out o HOU.out m hmr)
              obtain ⟨hi2, ho2⟩ := hT2.2.2.2.1
              have HFO := hid (show o ∈ whoT T2 from whoT_mem.2 ⟨i, hi2, ho2⟩)
              obtain ⟨ov, o1, o2⟩ := hT2.1.oc
              obtain ⟨oa2, oc2, hov⟩ := own_slN o2
              subst hov
              have hBa := (Below.refl wr.heap.size wr).alloc (Nat.le_refl _) (.cells #[.string m.1, .string m.2] 51)
              obtain ⟨b3, o3, hoa, w0, w1'⟩ := (own_ms (L := whoT T2) (by rw [whoT_len]; exact o2)).cells (k := i) (by rw [whoT_len]; exact hi2)
              subst hoa
              rw [whoT_get hi2] at w0 w1'
              have hiI2 : (i : Int) < (T2.length : Int) := by omega
              have hi00 : (0 : Int) ≤ (i : Int) := by omega
              obtain ⟨q0, q1⟩ : (wr.alloc (.cells #[.string m.1, .string m.2] 51)).cell? ⟨b3, o3 + i * 2, none⟩ = some (.string o.1) ∧ (wr.alloc (.cells #[.string m.1, .string m.2] 51)).cell? ⟨b3, o3 + i * 2 + 1, none⟩ = some (.string o.2) := ⟨cell_below hBa (by rw [← ho2]; exact w0), cell_below hBa (by rw [← ho2]; exact w1')⟩
              have q2 : (wr.alloc (.cells #[.string m.1, .string m.2] 51)).cell? ⟨w.heap.size + 1 + 1, 0, none⟩ = some (.slice (some ⟨b3, o3, none⟩) T2.length oc2) := cell_below hBa (by rw [Lib.cell_of_heap o1]; rfl)
              have HCO := hid (fun W (h : Wk w W (w.heap.size + 1) (w.heap.size + 1 + 1) w.heap.size T2) => come_any w W (w.heap.size + 1) (w.heap.size + 1 + 1) w.heap.size T2 m o (HZ.out m HMU.out) (by have := HT2.out.2.1.len; rw [univ_len] at this; omega) h)
              have HWB := hid (hT2.1.below hBa)
              clear hT2 hm hmr htk o1 o2 w0 w1' hBa
              clear ho2 hi2 hlt
              go_upto_region 15 with fail
              go_region_with (go_at_call 214; refine (HCO.out _ (HWB.out.below (below_drawn _ 1))).mono ?_; rintro e w4 ⟨rfl, hk4⟩; have HK4 := hid hk4; clear hk4)
              all_goals
                have HNX := hid (show ∃ T', Wk w w4 (w.heap.size + 1) (w.heap.size + 1 + 1) w.heap.size T' ∧ Bfs (reqQ Q L) (univ L) roots T' i ∧ (∀ m, m ∈ roots → m ∈ whoT T') ∧ (∃ h : i < T'.length, (T'[i]'h).1 = o) ∧ (∀ m, m ∈ R.take (k2 + 1) → m ∈ whoT T') ∧ ∃ V, LvOk (reqQ Q L) roots T' i V from by
                  obtain ⟨h1, h2, h3, ⟨h4, h5⟩, h6, V, h7⟩ := HT2.out
                  refine ⟨_, HK4.out, h2.come HMU.out (Or.inr ⟨HFO.out, HMR.out⟩), fun x hx => come_sub (h3 x hx), ?_, fun x hx => ?_, by rw [← h5]; exact h7.reqs h4 h3 (by rw [h5]; exact HMR.out)⟩
                  · obtain ⟨E, hE⟩ := come_old T2 m o
                    rw [hE]
                    exact ⟨by simp; omega, by rw [List.getElem_append_left h4]; exact h5⟩
                  · rcases HTK.out x hx with h | rfl
                    · exact come_sub (h6 x h)
                    · exact come_mem _ _ _)
                go_wp2_with fail
                go_roundw
                case rel => exact ⟨k2 + 1, HLT2.out, nr_idx k2, HNX⟩
                case measure => exact nr_meas HLT2.out
            · have HSE := hid (show ∃ T', Wk w wr (w.heap.size + 1) (w.heap.size + 1 + 1) w.heap.size T' ∧ Bfs (reqQ Q L) (univ L) roots T' (i + 1) ∧ (∀ m, m ∈ roots → m ∈ whoT T') ∧ ∃ V, LvOk (reqQ Q L) roots T' (i + 1) V by
                obtain ⟨T', h1, h2, h3, ⟨h4, h5⟩, h6, V, h7⟩ := HS2.out
                rw [List.take_of_length_le (by omega)] at h6
                exact ⟨T', h1, h2.next h4 (by rw [h5, HRQ.out]; exact h6), h3, V, h7.next h4 (by rw [h5, HRQ.out]; exact h6)⟩)
              have hkI2 : ¬ (k2 : Int) < (R.length : Int) := by omega
              have HIL := hid (show i < L.length by
                obtain ⟨T', h1, h2, h3, ⟨h4, h5⟩, h6⟩ := HS2.out
                have := h2.len
                rw [univ_len] at this
                omega)
              clear HS2 hlt
              go_wp2_with fail
              go_roundw
              case rel => exact ⟨i + 1, nr_idx i, HSE⟩
              case measure => exact nr_meas HIL.out
        · have hiI : ¬ (i : Int) < (T.length : Int) := by omega
          have HTE := hid (show i = T.length by have := HTT.out.2.1.le; omega)
          have z1 : wr.cell? ⟨w.heap.size + 1, 0, none⟩ = some (.map (some w.heap.size)) := by rw [Lib.cell_of_heap HTT.out.1.bc]; rfl
          clear hlt
          go_wp2_with fail
          go_ret
          exact ⟨_, rfl, T, HTT.out.1.mp, HTT.out.1.sz, ⟨by have := HTT.out.2.1; rw [HTE.out] at this; exact this, HTT.out.2.2.1, by have := HTT.out.2.2.2; rw [HTE.out] at this; exact this⟩, HTT.out.1.bl⟩
end Ve
end Go.Proofs.YtanponneancajaaGreatDoor

/-
  What graph.check, graph.reached and graph.Reach answer.
-/
namespace Go.Proofs.YtanponneancajaaGreatDoor
open Go.RowKit Go.Maps
namespace Ve

/-- What is wrong with an index and roots. -/
def chkG (Q : List Raw) (L : List Ent) (roots : List Bm) : Nat × Option Nat := if (chk Q L).1 ≠ 0 then chk Q L else (codeE (nonE Q roots) roots.length, fstE (nonE Q roots) roots.length)
theorem chkG_bad {Q : List Raw} {L : List Ent} {roots : List Bm} (h : (chk Q L).1 ≠ 0) : chkG Q L roots = chk Q L := by unfold chkG; rw [if_pos h]
theorem chkG_ok {Q : List Raw} {L : List Ent} {roots : List Bm} (h : (chk Q L).1 = 0) : chkG Q L roots = (codeE (nonE Q roots) roots.length, fstE (nonE Q roots) roots.length) := by unfold chkG; rw [if_neg (by simp [h])]
theorem codeE_all {E : Nat → Nat} {n : Nat} (h : codeE E n = 0) : ∀ j, j < n → E j = 0 := by
  cases h1 : fstE E n with
  | none => exact fstE_of_none h1
  | some i =>
    rw [codeE_some h1] at h
    exact absurd h (fstE_of_some h1).2.1
theorem nonE_found {w : World} {v : Value} {Q : List Raw} {L : List Ent} (I : Ixs w v Q L) {R : List Bm} (h : codeE (nonE Q R) R.length = 0) : ∀ m, m ∈ R → m ∈ univ L := fun m hm => by
  obtain ⟨j, hj, rfl⟩ := List.getElem_of_mem hm
  have h1 := codeE_all h j hj
  rw [nonE_at hj] at h1
  unfold nonW at h1
  refine (found_iff I _).2 ?_
  rcases idx_nat (isM R[j]) Q with h2 | h2
  · rw [h2] at h1; simp at h1
  · exact h2
theorem chk_reqs0 {w : World} {v : Value} {Q : List Raw} {L : List Ent} (I : Ixs w v Q L) (h : (chk Q L).1 = 0) : ∀ m, m ∈ univ L → ∀ x, x ∈ reqQ Q L m → x ∈ univ L := fun m hm x hx => by
  have h100 : ¬ 100 < L.length := by have := (chk_each0 h).1; omega
  cases hf : fstE (entE L) L.length with
  | some i => rw [chk_each h100 hf] at h; exact absurd h (fstE_of_some hf).2.1
  | none =>
    rw [chk_reqs h100 hf] at h
    obtain ⟨k, hk⟩ := (found_iff I m).1 hm
    obtain ⟨hkq, -⟩ := idx_is hk
    have hkl : k < L.length := by rw [← I.ln]; exact hkq
    rw [reqQ_at hk hkl] at hx
    have := codeE_all h k hkl
    rw [reqE2_at hkl] at this
    exact nonE_found I this x hx
set_option maxRecDepth 100000 in
set_option maxHeartbeats 2000000 in
theorem gcheck_any (Q : List Raw) (L : List Ent) (roots : List Bm) (v rv : Value) (A : Nat → Addr) (m : Int) (w : World) (hn : L.length ≤ 1000) (hrn : roots.length ≤ 1000000) (sh : ∀ e, e ∈ L → ShE e) (S : Te w A m) (I : Ixs w v Q L) (hr : MsAt w rv roots) :
    Calls Tryz.prog 166 #[v, rv] w fun e w' => ∃ x, e = .returned x ∧ ErrAt w' A x (chkG Q L roots).1 (chkG Q L roots).2 ∧ Below w.heap.size w w' := by
  have HCK := hid (icheck_any Q L v A m w (by omega) sh S I)
  have HCM := hid (fun W (h : Below w.heap.size w W) => cmods_any Q roots v rv A m W (by rw [I.ln]; omega) hrn (S.below h) (I.es.below h) (hr.below h))
  obtain ⟨a, c, hv, -⟩ := id I.es
  subst hv
  obtain ⟨ra, rc, hrv, -⟩ := id hr
  subst hrv
  clear S I hr sh
  go_enter Tryz.func166, Tryz.ntmps166
  go_wp2_with fail
  refine HCK.out.mono ?_
  rintro e w1 ⟨x, rfl, he, hb⟩
  have HE := hid he
  have HB := hid hb
  clear hb
  rcases he.kind.symm with ⟨hc0, T, xa, rfl⟩ | ⟨hc0, rfl⟩
  · have HX := hid (chkG_bad (roots := roots) hc0)
    clear he hc0
    go_wp2_with fail
    go_ret
    exact ⟨_, rfl, by rw [HX.out]; exact HE.out, HB.out⟩
  · have HX := hid (chkG_ok (roots := roots) hc0)
    have HC2 := hid (HCM.out w1 HB.out)
    clear he hc0 HCM
    go_wp2_with fail
    refine HC2.out.mono ?_
    rintro e w2 ⟨y, rfl, he, hb⟩
    have HE2 := hid he
    have HB2 := hid (HB.out.trans (hb.mono HB.out.size))
    clear he hb
    go_wp2_with fail
    go_ret
    exact ⟨_, rfl, by rw [HX.out]; exact HE2.out, HB2.out⟩
/-- The entries that came. -/
def goQ (T : By) (Q : List Raw) : List Raw := Q.filter fun r => cameB T r.1
def goM (T : By) (Q : List Raw) : List Bm := (goQ T Q).map fun r => r.1
set_option maxRecDepth 100000 in
set_option maxHeartbeats 2000000 in
theorem reached_some (Q : List Raw) (L : List Ent) (roots : List Bm) (v rv : Value) (A : Nat → Addr) (m : Int) (w : World) (hn : L.length ≤ 1000) (hrn : roots.length ≤ 1000000) (sh : ∀ e, e ∈ L → ShE e) (S : Te w A m) (I : Ixs w v Q L) (hr : MsAt w rv roots) (h0 : (chkG Q L roots).1 = 0) :
    Calls Tryz.prog 123 #[v, rv] w fun e w' => ∃ u, e = .returned (.tuple #[u, .nilIface]) ∧ ∃ T, Came (reqQ Q L) (univ L) roots T ∧ w'.ownsRow w.heap.size 54 5 u (goQ T Q).length (flatR (goQ T Q)) ∧ Below w.heap.size w w' := by
  have hc0 : (chk Q L).1 = 0 := by
    by_cases hc : (chk Q L).1 = 0
    · exact hc
    · rw [chkG_bad hc] at h0; exact absurd h0 hc
  have hru : ∀ m, m ∈ roots → m ∈ univ L := by rw [chkG_ok hc0] at h0; exact nonE_found I h0
  have HCK := hid (gcheck_any Q L roots v rv A m w hn hrn sh S I hr)
  have hz : ∀ m, m ∈ univ L → m.1.size ≤ maxLen ∧ m.2.size ≤ maxLen := fun m hm => by
    obtain ⟨e, he, rfl⟩ := List.mem_map.1 hm
    have := sh e he
    exact ⟨by have := this.p; unfold maxLen; omega, by have := this.v; unfold maxLen; omega⟩
  have HWK := hid (fun W (h : Below w.heap.size w W) => walk_any Q L roots v rv W hn hrn (I.below h) (hr.below h) hz (fun e he => (sh e he).rn) hru (chk_reqs0 I hc0))
  obtain ⟨a, c, hv, -, hs, hcc⟩ := id I.es
  subst hv
  obtain ⟨ra, rc, hrv, -⟩ := id hr
  subst hrv
  obtain ⟨i0, hi0, hz0, hz1, hz2⟩ := info_parts infoEnt
  have HH0 := hid h0
  have HC := hid hcc
  have HSL := hid hs
  have HI := hid I
  have HZ := hid hz
  clear S I hr sh h0 hc0 hru hz hs hcc
  go_enter Tryz.func123, Tryz.ntmps123
  go_wp2_with fail
  refine HCK.out.mono ?_
  rintro e w1 ⟨x, rfl, he, hb⟩
  have HB := hid hb
  have hx : x = .nilIface := by
    rcases he.kind with ⟨_, h⟩ | ⟨h, _⟩
    · exact h
    · exact absurd HH0.out h
  subst hx
  clear hb he HCK
  go_wp2_with fail
  refine (HWK.out w1 HB.out).mono ?_
  rintro e w2 ⟨mb, rfl, T, hby, hsz, hcm, hb⟩
  have HBY := hid hby
  have HSZ := hid hsz
  have HCM := hid hcm
  have HB2 := hid (HB.out.trans (hb.mono HB.out.size))
  clear hby hsz hcm hb HWK
  go_wp2_with fail
  go_loopw [8, 22] (fun ov i wr => ∃ k : Nat, k ≤ Q.length ∧ i = .int .i64 k ∧ Hid (wr.ownsRow w2.heap.size 54 5 ov (goQ T (Q.take k)).length (flatR (goQ T (Q.take k)))) ∧ Hid (Below w2.heap.size w2 wr)) (fun _ i _ => Q.length - (intOf i).toNat)
  case atStart => exact ⟨0, Nat.zero_le _, rfl, hid (World.ownsRow_nil _ _ _ _), hid (Below.refl _ _)⟩
  case round =>
    obtain ⟨k, hk, rfl, HO, HBr⟩ := hrel
    by_cases hlt : k < Q.length
    · have HBw := hid (HB2.out.trans (HBr.out.mono HB2.out.size))
      obtain ⟨eb, eo, ha, hce⟩ := HC.out (by intro h; rw [h] at hlt; simp at hlt)
      subst ha
      obtain ⟨y0, y1, y2, y3, y4⟩ := hce k hlt
      have x0 := cell_below HBw.out y0
      have x1 := cell_below HBw.out y1
      have x2 := cell_below HBw.out y2
      have x3 := cell_below HBw.out y3
      have x4 := cell_below HBw.out y4
      have hsl := HSL.out Q[k] (List.getElem_mem hlt)
      have hkI : (k : Int) < (Q.length : Int) := by omega
      have HLT := hid hlt
      have HQL := hid (show Q.length ≤ 1000000 by have := HI.out.ln; omega)
      have HY := hid (fun h => filter_yes hlt h (P := fun r => cameB T r.1))
      have HN := hid (fun h => filter_no hlt h (P := fun r => cameB T r.1))
      have HQZ := hid (show Q[k].1.1.size ≤ maxLen ∧ Q[k].1.2.size ≤ maxLen by
        obtain ⟨h1, h2⟩ := ixs_get HI.out hlt
        exact Eq.mpr (congrArg (fun m : Bm => m.1.size ≤ maxLen ∧ m.2.size ≤ maxLen) h2) (HZ.out _ (List.mem_map.2 ⟨L[k], List.getElem_mem h1, rfl⟩)))
      have HLN := hid (show (goQ T (Q.take k)).length ≤ 1000 from Nat.le_trans (List.length_filter_le _ _) (by rw [List.length_take]; have := HI.out.ln; omega))
      clear y0 y1 y2 y3 y4 hce
      generalize Q[k] = r at *
      obtain ⟨⟨p, q⟩, rv, pv, bk⟩ := r
      obtain ⟨⟨ra2, rn2, rc2, hrv⟩, pa, pn, pc, hpv⟩ := hsl
      simp only at hrv hpv
      subst hrv
      subst hpv
      have HBa := hid ((Below.refl wr.heap.size wr).alloc (Nat.le_refl _) (.cells #[.string p, .string q, .slice ra2 rn2 rc2, .slice pa pn pc, .bool bk] 54))
      have HBB := hid (HBr.out.trans (HBa.out.mono HBr.out.size))
      have HCA := hid (came_any mb T (p, q) _ HQZ.out HSZ.out (HBY.out.below HBB.out))
      have HOa := hid (HO.out.alloc (.cells #[.string p, .string q, .slice ra2 rn2 rc2, .slice pa pn pc, .bool bk] 54))
      clear hlt
      cases hp : cameB T (p, q) with
      | false =>
        rw [hp] at HCA
        have HN2 := hid (HN.out hp)
        clear hp
        go_wp2_with fail
        refine HCA.out.mono ?_
        rintro e w3 ⟨rfl, hb⟩
        have HB3 := hid (HBB.out.trans (hb.mono HBB.out.size))
        have HO3 := hid (owns_below HOa.out hb)
        clear hb
        go_wp2_with fail
        go_roundw
        case rel => first | exact ⟨k + 1, HLT.out, nr_idx k, by unfold goQ; rw [HN2.out]; exact HO3, HB3⟩ | exact ⟨k + 1, HLT.out, nx_idx HLT.out HQL.out, by unfold goQ; rw [HN2.out]; exact HO3, HB3⟩
        case measure => first | exact nr_meas HLT.out | exact nx_meas HLT.out HQL.out
      | true =>
        rw [hp] at HCA
        have HY2 := hid (HY.out hp)
        clear hp
        go_wp2_with fail
        refine HCA.out.mono ?_
        rintro e w3 ⟨rfl, hb⟩
        have HB3 := hid (HBB.out.trans (hb.mono HBB.out.size))
        have HO3 := hid (owns_below HOa.out hb)
        have HE1 := hid (show w3.heap[wr.heap.size]? = some (.cells #[.string p, .string q, .slice ra2 rn2 rc2, .slice pa pn pc, .bool bk] 54 (0, 0)) by rw [hb.block _ (by simp)]; exact heap_alloc_new wr _)
        have z0 : w3.cell? ⟨wr.heap.size, 0, none⟩ = some (.string p) := by rw [Lib.cell_of_heap HE1.out]; rfl
        have z1 : w3.cell? ⟨wr.heap.size, 1, none⟩ = some (.string q) := by rw [Lib.cell_of_heap HE1.out]; rfl
        have z2 : w3.cell? ⟨wr.heap.size, 2, none⟩ = some (.slice ra2 rn2 rc2) := by rw [Lib.cell_of_heap HE1.out]; rfl
        have z3 : w3.cell? ⟨wr.heap.size, 3, none⟩ = some (.slice pa pn pc) := by rw [Lib.cell_of_heap HE1.out]; rfl
        have z4 : w3.cell? ⟨wr.heap.size, 4, none⟩ = some (.bool bk) := by rw [Lib.cell_of_heap HE1.out]; rfl
        clear hb x0 x1 x2 x3 x4
        go_wp2_with (at_builtin; refine wpList_append_own _ rfl _ _ 42 rfl w2.heap.size 54 i0 _ 5 88 Tryz.underlying42 hi0 hz0 hz1 hz2 rfl (by decide) _ _ _ rfl (HO3.out.alloc _) ⟨w3.heap.size, 0, none⟩ 1 1 [.string p, .string q, .slice ra2 rn2 rc2, .slice pa pn pc, .bool bk] rfl rfl ?c1 ?c2 ?c3 ?c4 ?c5 ?_)
        case c1 => exact World.news_of_block (cs := #[.string p, .string q, .slice ra2 rn2 rc2, .slice pa pn pc, .bool bk]) (t := 54) (fr := (0, 0)) (heap_alloc_new w3 _)
        case c2 =>
          intro u hu
          simp at hu
          rcases hu with rfl | rfl | rfl | rfl | rfl <;> rfl
        case c3 => have := HLN.out; unfold maxLen; omega
        case c4 => have := HLN.out; omega
        case c5 => have := HB3.out.size; simp; omega
        intro v' w4 hown hgrow _
        have HR3 := hid (rel_app5 HB3.out.size HB3.out HO3.out (Below.refl _ _) hgrow)
        have HO4 := hid hown
        clear hown hgrow z0 z1 z2 z3 z4
        go_wp2_with fail
        go_roundw
        case rel => first | exact ⟨k + 1, HLT.out, nr_idx k, hid (own_nextR (x := ((p, q), .slice ra2 rn2 rc2, .slice pa pn pc, bk)) HO4.out HY2.out), HR3⟩ | exact ⟨k + 1, HLT.out, nx_idx HLT.out HQL.out, hid (own_nextR (x := ((p, q), .slice ra2 rn2 rc2, .slice pa pn pc, bk)) HO4.out HY2.out), HR3⟩
        case measure => first | exact nr_meas HLT.out | exact nx_meas HLT.out HQL.out
    · have HTR := hid (show Q.take k = Q from List.take_of_length_le (by omega))
      rw [HTR.out] at HO
      have hkI : ¬ (k : Int) < (Q.length : Int) := by omega
      obtain ⟨oa, oc, hov⟩ := own_slN HO.out
      subst hov
      clear hlt
      go_wp2_with fail
      go_ret2
      exact ⟨_, rfl, T, HCM.out, own_baseN HO.out HB2.out.size, HB2.out.trans (HBr.out.mono HB2.out.size)⟩
end Ve
end Go.Proofs.YtanponneancajaaGreatDoor

/-
  What graph.Reach answers.
-/
namespace Go.Proofs.YtanponneancajaaGreatDoor
open Go.RowKit Go.Maps
namespace Ve

set_option maxRecDepth 100000 in
set_option maxHeartbeats 2000000 in
theorem reached_bad (Q : List Raw) (L : List Ent) (roots : List Bm) (v rv : Value) (A : Nat → Addr) (m : Int) (w : World) (hn : L.length ≤ 1000) (hrn : roots.length ≤ 1000000) (sh : ∀ e, e ∈ L → ShE e) (S : Te w A m) (I : Ixs w v Q L) (hr : MsAt w rv roots) (h0 : (chkG Q L roots).1 ≠ 0) :
    Calls Tryz.prog 123 #[v, rv] w fun e w' => ∃ T a, e = .returned (.tuple #[.slice none 0 0, .iface T (.pointer (some a))]) ∧ ErrAt w' A (.iface T (.pointer (some a))) (chkG Q L roots).1 (chkG Q L roots).2 ∧ Below w.heap.size w w' := by
  have HCK := hid (gcheck_any Q L roots v rv A m w hn hrn sh S I hr)
  obtain ⟨a, c, hv, -⟩ := id I.es
  subst hv
  obtain ⟨ra, rc, hrv, -⟩ := id hr
  subst hrv
  have HH0 := hid h0
  clear S I hr sh h0
  go_enter Tryz.func123, Tryz.ntmps123
  go_wp2_with fail
  refine HCK.out.mono ?_
  rintro e w1 ⟨x, rfl, he, hb⟩
  have HB := hid hb
  have HE := hid he
  rcases he.kind with ⟨h, _⟩ | ⟨_, T, xa, rfl⟩
  · exact absurd h HH0.out
  clear hb he HCK
  go_wp2_with fail
  go_ret2
  exact ⟨_, _, rfl, HE.out, HB.out⟩
set_option maxRecDepth 100000 in
set_option maxHeartbeats 2000000 in
theorem reach_bad (Q : List Raw) (L : List Ent) (roots : List Bm) (v rv : Value) (A : Nat → Addr) (m : Int) (w : World) (hn : L.length ≤ 1000) (hrn : roots.length ≤ 1000000) (sh : ∀ e, e ∈ L → ShE e) (S : Te w A m) (I : Ixs w v Q L) (hr : MsAt w rv roots) (h0 : (chkG Q L roots).1 ≠ 0) :
    Calls Tryz.prog 73 #[v, rv] w fun e w' => ∃ T a, e = .returned (.tuple #[.slice none 0 0, .iface T (.pointer (some a))]) ∧ ErrAt w' A (.iface T (.pointer (some a))) (chkG Q L roots).1 (chkG Q L roots).2 ∧ Below w.heap.size w w' := by
  have HCK := hid (reached_bad Q L roots v rv A m w hn hrn sh S I hr h0)
  obtain ⟨a, c, hv, -⟩ := id I.es
  subst hv
  obtain ⟨ra, rc, hrv, -⟩ := id hr
  subst hrv
  clear S I hr sh h0
  go_enter Tryz.func73, Tryz.ntmps73
  go_wp2_with fail
  refine HCK.out.mono ?_
  rintro e w1 ⟨T, xa, rfl, he, hb⟩
  have HB := hid hb
  have HE := hid he
  clear hb he HCK
  go_wp2_with fail
  go_ret2
  exact ⟨_, _, rfl, HE.out, HB.out⟩
theorem goM_next {X : List Raw} {k : Nat} (hk : k < X.length) : flatM ((X.take (k + 1)).map fun r => r.1) = flatM ((X.take k).map fun r => r.1) ++ [.string X[k].1.1, .string X[k].1.2] := by
  rw [List.take_succ_eq_append_getElem hk, List.map_append, flatM_app]
  simp [flatM]
theorem rel_app2 {B : Nat} {w wr w2 w3 : World} {e : TypeId} {v : Value} {n : Nat} {xs : List Value} {o : Obj} (hB : B ≤ wr.heap.size) (hb : Below B w wr) (hown : wr.ownsRow B e 2 v n xs) (hb2 : Below wr.heap.size wr w2)
    (hg : (w2.alloc o).grownBy w3 v.ownBlock) : Below B w w3 := by
  have h2 : Below B w w2 := hb.trans (hb2.mono hB)
  have h3 : Below B w (w2.alloc o) := h2.alloc (Nat.le_trans hB hb2.size) o
  exact h3.grown hg (by simp; exact Nat.le_succ_of_le (Nat.le_trans hB hb2.size)) (fun k hk => (hown.lt k hk).1)
set_option maxRecDepth 100000 in
set_option maxHeartbeats 2000000 in
theorem reach_good (Q : List Raw) (L : List Ent) (roots : List Bm) (v rv : Value) (A : Nat → Addr) (m : Int) (w : World) (hn : L.length ≤ 1000) (hrn : roots.length ≤ 1000000) (sh : ∀ e, e ∈ L → ShE e) (S : Te w A m) (I : Ixs w v Q L) (hr : MsAt w rv roots) (h0 : (chkG Q L roots).1 = 0) :
    Calls Tryz.prog 73 #[v, rv] w fun e w' => ∃ u, e = .returned (.tuple #[u, .nilIface]) ∧ ∃ T, Came (reqQ Q L) (univ L) roots T ∧ w'.ownsRow w.heap.size 51 2 u (goM T Q).length (flatM (goM T Q)) ∧ Below w.heap.size w w' := by
  have HRE := hid (reached_some Q L roots v rv A m w hn hrn sh S I hr h0)
  obtain ⟨a, c, hv, -, hs, -⟩ := id I.es
  subst hv
  obtain ⟨ra, rc, hrv, -⟩ := id hr
  subst hrv
  obtain ⟨i0, hi0, hz0, hz1, hz2⟩ := info_parts infoMod
  have HSL := hid hs
  have HLN := hid I.ln
  clear S I hr sh h0 hs
  go_enter Tryz.func73, Tryz.ntmps73
  go_wp2_with fail
  refine HRE.out.mono ?_
  rintro e w1 ⟨u, rfl, T, hcm, hown, hb⟩
  have HCM := hid hcm
  have HB := hid hb
  have HES := hid (show EsAt w1 u (goQ T Q) from own_es (fun r hr => HSL.out r (List.mem_filter.1 hr).1) hown)
  obtain ⟨ua, uc, hu⟩ := own_slN hown
  subst hu
  have HXL := hid (show (goQ T Q).length ≤ 1000 from Nat.le_trans (List.length_filter_le _ _) (by rw [HLN.out]; exact hn))
  have HSX := hid (show ∀ r, r ∈ goQ T Q → slR r from fun r hr => HSL.out r (List.mem_filter.1 hr).1)
  have HGM := hid (show goM T Q = (goQ T Q).map fun r => r.1 from rfl)
  clear hcm hb hown HRE HSL
  generalize goQ T Q = X at *
  go_wp2_with fail
  go_loopw [8, 22] (fun ov i wr => ∃ k : Nat, k ≤ X.length ∧ i = .int .i64 k ∧ Hid (wr.ownsRow w1.heap.size 51 2 ov k (flatM ((X.take k).map fun r => r.1))) ∧ Hid (Below w1.heap.size w1 wr)) (fun _ i _ => X.length - (intOf i).toNat)
  case atStart => exact ⟨0, Nat.zero_le _, rfl, hid (World.ownsRow_nil _ _ _ _), hid (Below.refl _ _)⟩
  case round =>
    obtain ⟨k, hk, rfl, HO, HBr⟩ := hrel
    by_cases hlt : k < X.length
    · obtain ⟨ua', uc', hue, -, -, hce⟩ := HES.out.below HBr.out
      injection hue with hu1 hu2 hu3
      subst hu1
      subst hu3
      clear hu2
      obtain ⟨eb, eo, ha, hce2⟩ := hce (by intro h; rw [h] at hlt; simp at hlt)
      subst ha
      obtain ⟨x0, x1, x2, x3, x4⟩ := hce2 k hlt
      have hsl := HSX.out X[k] (List.getElem_mem hlt)
      have hkI : (k : Int) < (X.length : Int) := by omega
      have HLT := hid hlt
      have HNX := hid (goM_next hlt)
      clear hce hce2
      generalize X[k] = r at *
      obtain ⟨⟨p, q⟩, rv, pv, bk⟩ := r
      obtain ⟨⟨ra2, rn2, rc2, hrv⟩, pa, pn, pc, hpv⟩ := hsl
      simp only at hrv hpv
      subst hrv
      subst hpv
      have HBa := hid ((Below.refl wr.heap.size wr).alloc (Nat.le_refl _) (.cells #[.string p, .string q, .slice ra2 rn2 rc2, .slice pa pn pc, .bool bk] 54))
      have HBB := hid (HBr.out.trans (HBa.out.mono HBr.out.size))
      have HOa := hid (HO.out.alloc (.cells #[.string p, .string q, .slice ra2 rn2 rc2, .slice pa pn pc, .bool bk] 54))
      have hs1 := HBr.out.size
      clear hlt
      go_wp2_with (at_builtin; refine wpList_append_own _ rfl _ _ 52 rfl w1.heap.size 51 i0 _ 2 32 Tryz.underlying52 hi0 hz0 hz1 hz2 rfl (by decide) _ _ _ rfl (HOa.out.alloc _) ⟨wr.heap.size + 1, 0, none⟩ 1 1 [.string p, .string q] rfl rfl ?c1 ?c2 ?c3 ?c4 ?c5 ?_)
      case c2 => first | rfl | exact ⟨rfl, rfl⟩ | (intro u hu; simp at hu; rcases hu with rfl | rfl <;> rfl) | simp
      case c3 => have := HLT.out; have := HXL.out; unfold maxLen; omega
      case c4 => have := HLT.out; have := HXL.out; omega
      case c5 => first | omega | (simp; omega)
      intro v' w4 hown hgrow _
      have HR3 := hid (rel_app2 HBB.out.size HBB.out HOa.out (Below.refl _ _) hgrow)
      have HO4 := hid hown
      clear hown hgrow
      go_wp2_with fail
      go_roundw
      case rel => first | exact ⟨k + 1, HLT.out, nr_idx k, hid (by rw [HNX.out, List.map_take]; exact HO4.out), HR3⟩ | exact ⟨k + 1, HLT.out, nx_idx HLT.out (by have := HXL.out; omega), hid (by rw [HNX.out, List.map_take]; exact HO4.out), HR3⟩
      case measure => first | exact nr_meas HLT.out | exact nx_meas HLT.out (by have := HXL.out; omega)
    · have HTR := hid (show X.take k = X from List.take_of_length_le (by omega))
      have HKE := hid (show k = X.length by omega)
      rw [HTR.out] at HO
      have hkI : ¬ (k : Int) < (X.length : Int) := by omega
      obtain ⟨oa, oc, hov⟩ := own_slN HO.out
      subst hov
      clear hlt
      go_wp2_with fail
      go_ret2
      exact ⟨_, rfl, T, HCM.out, by rw [HGM.out, List.length_map, ← HKE.out]; exact own_baseN HO.out HB.out.size, HB.out.trans (HBr.out.mono HB.out.size)⟩
end Ve
end Go.Proofs.YtanponneancajaaGreatDoor

/-
  Nothing: this program holds no such function.
-/


/-
  slices.Reverse of modules; whom a module came by, out of the map.
-/
namespace Go.Proofs.YtanponneancajaaGreatDoor
open Go.RowKit Go.Maps Go.Sort Go.Lib
namespace Ve

def encM (m : Bm) : List Value := [.string m.1, .string m.2]
/-- Whom a module came by. -/
theorem look_at {w : World} {b : Nat} {T : By} (h : ByAt w b T) (hT : szT T) (hn : (whoT T).Nodup) {k : Nat} (hk : k < T.length) :
    (Instr.lookup 179 (.map (some b)) (.agg #[.string T[k].1.1, .string T[k].1.2]) false).run Tryz.prog w = .ok (.agg #[.string T[k].2.1, .string T[k].2.2]) w := by
  have hs := hT T[k] (List.getElem_mem hk)
  obtain ⟨v, ps, hrun, hv⟩ := World.ownsMap.lookup h modKey Tryz.underlying179 (zeroMod w) (rB_mod _) (keyOf_mod T[k].1 hs.1 hs.2)
  rw [datB_at hT hn hk] at hv
  obtain rfl := rB_inv hv
  exact hrun
end Ve
end Go.Proofs.YtanponneancajaaGreatDoor

/-
  What graph.Way answers.
-/
namespace Go.Proofs.YtanponneancajaaGreatDoor
open Go.RowKit Go.Maps
namespace Ve

/-- What is asked ahead of a walk of an index and roots that are right. -/
structure Rgt (Q : List Raw) (L : List Ent) (roots : List Bm) : Prop where
  c : (chk Q L).1 = 0
  r : ∀ m, m ∈ roots → m ∈ univ L
theorem rgt_of {w : World} {v : Value} {Q : List Raw} {L : List Ent} {roots : List Bm} (I : Ixs w v Q L) (h0 : (chkG Q L roots).1 = 0) : Rgt Q L roots := by
  have hc0 : (chk Q L).1 = 0 := by
    by_cases hc : (chk Q L).1 = 0
    · exact hc
    · rw [chkG_bad hc] at h0; exact absurd h0 hc
  exact ⟨hc0, by rw [chkG_ok hc0] at h0; exact nonE_found I h0⟩
theorem univ_sz {L : List Ent} (sh : ∀ e, e ∈ L → ShE e) : ∀ m, m ∈ univ L → m.1.size ≤ maxLen ∧ m.2.size ≤ maxLen := fun m hm => by
  obtain ⟨e, he, rfl⟩ := List.mem_map.1 hm
  have := sh e he
  exact ⟨by have := this.p; unfold maxLen; omega, by have := this.v; unfold maxLen; omega⟩
theorem modNeq_ne {m f : Bm} (h : m ≠ f) (W : World) : (binOp .neq 51 (.agg #[.string m.1, .string m.2]) (.agg #[.string f.1, .string f.2])).run Tryz.prog W = .ok (.bool true) W := by
  rw [modNeq, decide_eq_false (fun e => h (Prod.ext e.1 e.2))]; rfl
/-- A way: from a root to a module, each required by the one ahead, no one twice. -/
structure WayOk (req : Bm → List Bm) (U roots : List Bm) (x : Bm) (Y : List Bm) : Prop where
  un : ∀ y, y ∈ Y → y ∈ U
  pos : 0 < Y.length
  first : Y[0]'pos ∈ roots
  last : Y.getLast? = some x
  nd : Y.Nodup
  ch : ∀ a (ha : a + 1 < Y.length), Y[a + 1] ∈ req Y[a]
  ds : Dst req roots x Y.length
def lenOf : Value → Nat
  | .slice _ n _ => n
  | _ => 0
/-- The way back, as far as it has come. -/
structure Wst (w0 W : World) (req : Bm → List Bm) (T : By) (x : Bm) (mb : Nat) (yv : Value) (k : Nat) (V : List Bm) : Prop where
  bl : Below w0.heap.size w0 W
  wy : Wy req T x k V.reverse
  ln : V.length + k ≤ T.length
  xc : ∃ h : k < T.length, W.heap[w0.heap.size]? = some (.cells #[.string (T[k]'h).1.1, .string (T[k]'h).1.2] 51 (0, 0))
  mp : ByAt W mb T
  row : W.ownsRow (w0.heap.size + 1) 51 2 yv V.length (flatM V)
theorem Wst.below {w0 W W' : World} {req : Bm → List Bm} {T : By} {x : Bm} {mb : Nat} {yv : Value} {k : Nat} {V : List Bm} (h : Wst w0 W req T x mb yv k V) (hb : Below W.heap.size W W') : Wst w0 W' req T x mb yv k V := by
  obtain ⟨hk, hc⟩ := h.xc
  exact ⟨h.bl.trans (hb.mono h.bl.size), h.wy, h.ln, ⟨hk, (hb.block _ (lt_of_blk hc)).trans hc⟩, h.mp.below hb, owns_below h.row hb⟩
/-- The box behind a store of a module. -/
def putM (W : World) (b : Nat) (m : Bm) : World := (W.setCell ⟨b, 0, none⟩ (.string m.1)).setCell ⟨b, 1, none⟩ (.string m.2)
theorem putM_block {W : World} {b : Nat} {c0 c1 : Value} {t : TypeId} (m : Bm) (h : W.heap[b]? = some (.cells #[c0, c1] t (0, 0))) : (putM W b m).heap[b]? = some (.cells #[.string m.1, .string m.2] t (0, 0)) := by
  unfold putM
  have h1 := set_block (o := 0) (x := .string m.1) h
  have h2 := set_block (o := 1) (x := .string m.2) h1
  simpa using h2
theorem putM_other {W : World} {b g : Nat} (m : Bm) (h : g ≠ b) : (putM W b m).heap[g]? = W.heap[g]? := by
  unfold putM
  rw [Below.heap_setCell _ _ _ _ h, Below.heap_setCell _ _ _ _ h]
theorem putM_size (W : World) (b : Nat) (m : Bm) : (putM W b m).heap.size = W.heap.size := by simp [putM, World.setCell]
theorem putM_owns {W : World} {b n : Nat} {e : TypeId} {v : Value} {xs : List Value} (m : Bm) (h : W.ownsRow (b + 1) e 2 v n xs) : (putM W b m).ownsRow (b + 1) e 2 v n xs := by
  have hne : v.ownBlock ≠ some b := fun hh => by have := (h.lt b hh).1; omega
  exact owns_set (owns_set h hne) hne
/-- One step back. -/
theorem Wst.more {w0 W w6 : World} {req : Bm → List Bm} {T : By} {x : Bm} {mb : Nat} {yv yv' : Value} {k : Nat} {V : List Bm} {o : Obj} (h : Wst w0 W req T x mb yv k V) (hk : k < T.length) {j : Nat} (hj : j < k) (e1 : (T[j]'(Nat.lt_trans hj hk)).1 = T[k].2) (e2 : T[k].1 ∈ req T[k].2)
    (hown : w6.ownsRow (w0.heap.size + 1) 51 2 yv' (V.length + 1) (flatM V ++ [.string T[k].2.1, .string T[k].2.2])) (hg : ((putM W w0.heap.size T[k].2).alloc o).grownBy w6 yv.ownBlock) :
    Wst w0 w6 req T x mb yv' j (V ++ [T[k].2]) := by
  obtain ⟨hk', hc⟩ := h.xc
  have hs := h.bl.size
  have l1 := lt_of_blk hc
  obtain ⟨es, clock, hm1⟩ := h.mp.block
  have l2 := lt_of_blk hm1
  have n1 : w0.heap.size ≠ mb := h.mp.ne hc
  have r1 : yv.ownBlock ≠ some w0.heap.size := fun hh => by have := (h.row.lt _ hh).1; omega
  have r2 : yv.ownBlock ≠ some mb := fun hh => by
    obtain ⟨hl, ⟨h1, _⟩ | ⟨g', cap, cur, q1, q2, q3, _⟩⟩ := h.row
    · rw [h1] at hh; cases hh
    · rw [q1] at hh
      have : g' = mb := by simpa [Value.ownBlock] using hh
      exact h.mp.ne q3 this
  have al := (Below.refl (putM W w0.heap.size T[k].2).heap.size (putM W w0.heap.size T[k].2)).alloc (Nat.le_refl _) o
  have keep : ∀ b, b < W.heap.size → yv.ownBlock ≠ some b → w6.heap[b]? = (putM W w0.heap.size T[k].2).heap[b]? := fun b hb hr => by
    rw [hg.block b (by simp [putM_size]; omega) (fun e => hr e.symm), al.block b (by rw [putM_size]; exact hb)]
  have b1 : Below w0.heap.size w0 (putM W w0.heap.size T[k].2) := (h.bl.setCell (p := ⟨w0.heap.size, 0, none⟩) (Nat.le_refl _) _).setCell (p := ⟨w0.heap.size, 1, none⟩) (Nat.le_refl _) _
  have b2 : Below w0.heap.size w0 w6 := (b1.alloc b1.size o).grown hg (by simp [putM_size]; omega) (fun q hq => by have := (h.row.lt q hq).1; omega)
  refine ⟨b2, ?_, ?_, ⟨Nat.lt_trans hj hk, ?_⟩, ?_, ?_⟩
  · rw [List.reverse_append, List.reverse_singleton, ← e1]
    exact Wy.next h.wy hk hj e1 e2
  · have := h.ln; simp; omega
  · rw [keep _ l1 r1, e1]; exact putM_block _ hc
  · exact (h.mp.heap (putM_other _ (Ne.symm n1))).heap (keep mb l2 r2)
  · rw [List.length_append, flatM_app]
    exact hown
theorem Wst.ok {w0 W : World} {Q : List Raw} {L : List Ent} {roots : List Bm} {T : By} {x : Bm} {mb : Nat} {yv : Value} {k : Nat} {V : List Bm} (h : Wst w0 W (reqQ Q L) T x mb yv k V) (hc : Came (reqQ Q L) (univ L) roots T) (hk : k < T.length) (e : T[k].1 = T[k].2) : WayOk (reqQ Q L) (univ L) roots x V.reverse := by
  refine ⟨fun y hy => by
    obtain ⟨p, hp, _, e⟩ := h.wy.far y hy
    exact hc.b.un y (whoT_mem.2 ⟨p, hp, e⟩), h.wy.pos, ?_, h.wy.last, h.wy.nd hc.b.nd, h.wy.chain, ?_⟩
  · rw [h.wy.head]
    rcases hc.b.by_ k hk with h1 | ⟨j, hj, h2, _⟩
    · exact h1.2
    · have := nd_get hc.b.nd (by omega) hk (h2.trans e.symm)
      omega
  · obtain ⟨G, hG⟩ := hc.l
    obtain ⟨t, ht, ht', hk', e1, e2⟩ := hG.way hc.b.nd h.wy
    have h1 : G[k] = 1 := by
      rcases hG.st k hk hk' with h1 | ⟨j, hj, h2, _⟩
      · exact h1.2
      · have := nd_get hc.b.nd (by omega) hk (h2.trans e.symm)
        omega
    have h2 := hG.dst hc.b.nd hc.r ht ht'
    rw [e1] at h2
    rw [show V.reverse.length = G[t] by omega]
    exact h2
end Ve
end Go.Proofs.YtanponneancajaaGreatDoor

/-
  What small and reached of the statements answer: the closed fact holds.
-/
namespace Go.Proofs.YtanponneancajaaGreatDoor
open Go.RowKit Go.Maps
namespace Ve

def ma0 : Bm := (⟨#[97]⟩, ⟨#[118, 49, 46, 48, 46, 48]⟩)
def ma1 : Bm := (⟨#[97]⟩, ⟨#[118, 49, 46, 49, 46, 48]⟩)
def mb0 : Bm := (⟨#[98]⟩, ⟨#[118, 48, 46, 49, 46, 48]⟩)
def smL : List Ent := [(ma0, [], [], false), (ma1, [mb0], [], false), (mb0, [], [], false)]
def smQ (g : Nat) : List Raw := [(ma0, .slice none 0 0, .slice none 0 0, false), (ma1, .slice (some ⟨g, 0, none⟩) 1 1, .slice none 0 0, false), (mb0, .slice none 0 0, .slice none 0 0, false)]
theorem pk_nilS : packErr (bl []) = 0 := pk_ok (by decide) rfl (by simp [risB, srtB, bl, Lib.compact, Lib.compactUpTo])
theorem sm_e0 : entE smL 0 = 0 := by
  show entW none _ = 0
  rw [entW_none (by kernel_rfl), entR_pack (by decide) (by kernel_rfl)]
  exact pk_nilS
theorem sm_e1 : entE smL 1 = 0 := by
  show entW (some _) _ = 0
  rw [entW_some (by kernel_rfl) (by kernel_rfl), entR_pack (by decide) (by kernel_rfl)]
  exact pk_nilS
theorem sm_e2 : entE smL 2 = 0 := by
  show entW (some _) _ = 0
  rw [entW_some (by kernel_rfl) (by kernel_rfl), entR_pack (by decide) (by kernel_rfl)]
  exact pk_nilS
theorem sm_chk (g : Nat) : chk (smQ g) smL = (0, none) := by
  have h2 : ∀ j, j < 3 → entE smL j = 0 := fun j hj => by
    rcases (by omega : j = 0 ∨ j = 1 ∨ j = 2) with rfl | rfl | rfl
    · exact sm_e0
    · exact sm_e1
    · exact sm_e2
  have h : fstE (entE smL) smL.length = none := fstE_none h2
  rw [chk_reqs (by decide) h]
  exact Prod.ext (show codeE (reqE2 (smQ g) smL) smL.length = 0 by kernel_rfl) (show fstE (reqE2 (smQ g) smL) smL.length = none by kernel_rfl)
theorem sm_chkG (g : Nat) : (chkG (smQ g) smL [ma1]).1 = 0 := by
  rw [chkG_ok (by rw [sm_chk])]
  show codeE (nonE (smQ g) [ma1]) 1 = 0
  kernel_rfl
theorem sm_r1 (g : Nat) : reqQ (smQ g) smL ma1 = [mb0] := by kernel_rfl
theorem sm_rb (g : Nat) : reqQ (smQ g) smL mb0 = [] := by kernel_rfl
theorem sm_rch {g : Nat} {m : Bm} (h : Rch (reqQ (smQ g) smL) [ma1] m) : m = ma1 ∨ m = mb0 := by
  induction h with
  | root hr => simp at hr; exact Or.inl hr
  | step _ hr ih =>
    rcases ih with rfl | rfl
    · rw [sm_r1] at hr; simp at hr; exact Or.inr hr
    · rw [sm_rb] at hr; simp at hr
theorem sm_go {g : Nat} {T : By} (h : Came (reqQ (smQ g) smL) (univ smL) [ma1] T) : goM T (smQ g) = [ma1, mb0] := by
  have c1 : cameB T ma1 = true := (h.cameB _).2 (.root (by simp))
  have cb : cameB T mb0 = true := (h.cameB _).2 (.step (.root (List.mem_singleton.2 rfl)) (by rw [sm_r1]; simp))
  have c0 : cameB T ma0 = false := by
    cases hc : cameB T ma0 with
    | false => rfl
    | true =>
      rcases sm_rch ((h.cameB _).1 hc) with e | e
      · exact absurd (congrArg (fun m : Bm => m.2.data) e) (by decide)
      · exact absurd (congrArg (fun m : Bm => m.1.data) e) (by decide)
  unfold goM goQ smQ
  simp [c0, c1, cb]
theorem sm_ixs {W : World} {g q : Nat} (hb : W.heap[q]? = some (.cells #[.string ⟨#[97]⟩, .string ⟨#[118, 49, 46, 48, 46, 48]⟩, .slice none 0 0, .slice none 0 0, .bool false, .string ⟨#[97]⟩, .string ⟨#[118, 49, 46, 49, 46, 48]⟩, .slice (some ⟨g, 0, none⟩) 1 1, .slice none 0 0, .bool false, .string ⟨#[98]⟩, .string ⟨#[118, 48, 46, 49, 46, 48]⟩, .slice none 0 0, .slice none 0 0, .bool false] 54 (0, 0)))
    (hg : W.heap[g]? = some (.cells #[.string ⟨#[98]⟩, .string ⟨#[118, 48, 46, 49, 46, 48]⟩] 51 (0, 0))) :
    Ixs W (.slice (some ⟨q, 0, none⟩) 3 3) (smQ g) smL := by
  have msn : MsAt W (.slice none 0 0) [] := ⟨none, 0, rfl, Nat.le_refl _, fun h => absurd rfl h⟩
  have txn : TxAt W (.slice none 0 0) [] := ⟨none, 0, rfl, Nat.le_refl _, fun h => absurd rfl h⟩
  have msb : MsAt W (.slice (some ⟨g, 0, none⟩) 1 1) [mb0] := ⟨some ⟨g, 0, none⟩, 1, rfl, Nat.le_refl _, fun _ => ⟨g, 0, rfl, fun j hj => by
    have : j = 0 := by simp at hj; exact hj
    subst this
    refine ⟨?_, ?_⟩ <;> (rw [Lib.cell_of_heap hg]; rfl)⟩⟩
  refine ⟨⟨some ⟨q, 0, none⟩, 3, rfl, Nat.le_refl _, fun r hr => ?_, fun _ => ⟨q, 0, rfl, fun j hj => ?_⟩⟩, rfl, fun j h1 h2 => ?_⟩
  · have : r = (ma0, .slice none 0 0, .slice none 0 0, false) ∨ r = (ma1, .slice (some ⟨g, 0, none⟩) 1 1, .slice none 0 0, false) ∨ r = (mb0, .slice none 0 0, .slice none 0 0, false) := by simpa [smQ] using hr
    rcases this with rfl | rfl | rfl
    · exact ⟨⟨none, 0, 0, rfl⟩, none, 0, 0, rfl⟩
    · exact ⟨⟨_, _, _, rfl⟩, none, 0, 0, rfl⟩
    · exact ⟨⟨none, 0, 0, rfl⟩, none, 0, 0, rfl⟩
  · have hj2 : j < 3 := hj
    rcases (by omega : j = 0 ∨ j = 1 ∨ j = 2) with rfl | rfl | rfl
    · refine ⟨?_, ?_, ?_, ?_, ?_⟩ <;> (rw [Lib.cell_of_heap hb]; rfl)
    · refine ⟨?_, ?_, ?_, ?_, ?_⟩ <;> (rw [Lib.cell_of_heap hb]; rfl)
    · refine ⟨?_, ?_, ?_, ?_, ?_⟩ <;> (rw [Lib.cell_of_heap hb]; rfl)
  · have hj2 : j < 3 := h1
    rcases (by omega : j = 0 ∨ j = 1 ∨ j = 2) with rfl | rfl | rfl
    · exact ⟨rfl, msn, txn, rfl⟩
    · exact ⟨rfl, msb, txn, rfl⟩
    · exact ⟨rfl, msn, txn, rfl⟩
theorem sm_sh : ∀ e, e ∈ smL → ShE e := fun e he => by
  have : e = smL[0] ∨ e = smL[1] ∨ e = smL[2] := by simpa [smL] using he
  rcases this with rfl | rfl | rfl
  · exact ⟨by decide, by decide, by decide, fun m hm => (by cases hm), by decide, fun x hx => (by cases hx)⟩
  · exact ⟨by decide, by decide, by decide, fun m hm => (by have : m = mb0 := List.mem_singleton.1 hm
                                                            subst this; exact ⟨by decide, by decide⟩), by decide, fun x hx => (by cases hx)⟩
  · exact ⟨by decide, by decide, by decide, fun m hm => (by cases hm), by decide, fun x hx => (by cases hx)⟩
set_option maxHeartbeats 2000000 in
/-- pewholderlaw2.small. -/
theorem smallI_any (w : World) : Calls Tryz.prog 72 #[] w fun e w' => ∃ g q, e = .returned (.slice (some ⟨q, 0, none⟩) 3 3) ∧ Ixs w' (.slice (some ⟨q, 0, none⟩) 3 3) (smQ g) smL ∧ Below w.heap.size w w' := by
  go_enter Tryz.func72, Tryz.ntmps72
  go_wp2_with fail
  go_ret
  refine ⟨w.heap.size, w.heap.size + 1, rfl, ?_, ((Below.refl w.heap.size w).alloc (Nat.le_refl _) _).alloc (by simp) _⟩
  have h2 := heap_alloc_new (w.alloc (.cells #[.string ⟨#[98]⟩, .string ⟨#[118, 48, 46, 49, 46, 48]⟩] 51)) (.cells #[.string ⟨#[97]⟩, .string ⟨#[118, 49, 46, 48, 46, 48]⟩, .slice none 0 0, .slice none 0 0, .bool false, .string ⟨#[97]⟩, .string ⟨#[118, 49, 46, 49, 46, 48]⟩, .slice (some ⟨w.heap.size, 0, none⟩) 1 1, .slice none 0 0, .bool false, .string ⟨#[98]⟩, .string ⟨#[118, 48, 46, 49, 46, 48]⟩, .slice none 0 0, .slice none 0 0, .bool false] 54)
  rw [show (w.alloc (.cells #[.string ⟨#[98]⟩, .string ⟨#[118, 48, 46, 49, 46, 48]⟩] 51)).heap.size = w.heap.size + 1 by simp] at h2
  exact sm_ixs h2 (heap_old _ _ (heap_new w _))
end Ve
end Go.Proofs.YtanponneancajaaGreatDoor

/-
  What LongMods of the statements answers, whatever its bound.
-/
namespace Go.Proofs.YtanponneancajaaGreatDoor
open Go.RowKit
namespace Ve

def okLN (N : Nat) (L : List Bm) : Bool := decide (L.length ≤ N) && L.all okM
theorem okLN_iff {N : Nat} {L : List Bm} (h : okLN N L = true) : L.length ≤ N ∧ ∀ m, m ∈ L → m.1.size ≤ 70 ∧ m.2.size ≤ 60 := by
  unfold okLN at h
  rw [Bool.and_eq_true] at h
  refine ⟨of_decide_eq_true h.1, fun m hm => ?_⟩
  have := List.all_eq_true.1 h.2 m hm
  unfold okM at this
  rw [Bool.and_eq_true] at this
  exact ⟨of_decide_eq_true this.1, of_decide_eq_true this.2⟩
set_option maxHeartbeats 1000000 in
theorem longN_some (N : Nat) (hN : N ≤ 1000) (L : List Bm) (b o c : Nat) (w : World) (hn : L.length ≤ N)
    (hc : ∀ j (h : j < L.length), w.cell? ⟨b, o + j * 2, none⟩ = some (.string L[j].1) ∧ w.cell? ⟨b, o + j * 2 + 1, none⟩ = some (.string L[j].2)) :
    Calls Tryz.prog 29 #[.slice (some ⟨b, o, none⟩) L.length c, .int .i64 (N : Int)] w fun e w' => e = .returned (.int .i64 (if okLN N L then 0 else 1)) ∧ w' = w := by
  have HC := hid hc
  have HO := hid (show okLN N L = L.all okM by unfold okLN; rw [decide_eq_true hn, Bool.true_and])
  have hn2 : ¬ (N : Int) < (L.length : Int) := by omega
  generalize hr : (if okLN N L then (0 : Int) else 1) = r
  have HR := hid hr
  clear hc hr
  go_enter Tryz.func29, Tryz.ntmps29
  go_wp2_with fail
  go_loop [5] (fun i => ∃ k : Nat, k ≤ L.length ∧ i = .int .i64 k ∧ Hid ((L.take k).all okM = true)) (fun i => L.length - (intOf i).toNat)
  case atStart => exact ⟨0, Nat.zero_le _, rfl, hid rfl⟩
  case round =>
    obtain ⟨k, hk, rfl, HA⟩ := hrel
    by_cases hlt : k < L.length
    · have hx := (HC.out k hlt).1
      have hy := (HC.out k hlt).2
      have HN := hid (fun h => all_take_next hlt HA.out h)
      have HX := hid (fun h => all_not hlt h)
      have HLT := hid hlt
      have hkI : (k : Int) < (L.length : Int) := by omega
      generalize L[k] = x at *
      clear hlt
      obtain ⟨p, v⟩ := x
      by_cases h1 : p.size ≤ 70
      · have h1' : ¬ (70 : Int) < (p.size : Int) := by omega
        by_cases h2 : v.size ≤ 60
        · have h2' : ¬ (60 : Int) < (v.size : Int) := by omega
          have HT := hid (HN.out (by unfold okM; rw [decide_eq_true h1, decide_eq_true h2]; rfl))
          go_wp2_with fail
          go_round
          case rel => exact ⟨k + 1, by have := HLT.out; omega, by go_num, HT⟩
          case measure => have := HLT.out; simp [intOf]; omega
        · have h2' : (60 : Int) < (v.size : Int) := by omega
          have HT := hid (HX.out (by unfold okM; rw [decide_eq_true h1, decide_eq_false h2]; rfl))
          go_wp2_with fail
          go_ret
          exact ⟨by rw [← HR.out, HO.out, HT.out]; rfl, rfl⟩
      · have h1' : (70 : Int) < (p.size : Int) := by omega
        have HT := hid (HX.out (by unfold okM; rw [decide_eq_false h1]; rfl))
        go_wp2_with fail
        go_ret
        exact ⟨by rw [← HR.out, HO.out, HT.out]; rfl, rfl⟩
    · have HT := hid (show L.all okM = true by have := HA.out; rw [List.take_of_length_le (by omega)] at this; exact this)
      go_wp2_with fail
      go_ret
      exact ⟨by rw [← HR.out, HO.out, HT.out]; rfl, rfl⟩
theorem longN_none (N : Nat) (a : Option Addr) (c : Nat) (w : World) : Calls Tryz.prog 29 #[.slice a 0 c, .int .i64 (N : Int)] w fun e w' => e = .returned (.int .i64 0) ∧ w' = w := by
  go_enter Tryz.func29, Tryz.ntmps29
  go_wp2_with fail
  go_loop [5] (fun i => i = .int .i64 0) (fun i => 0)
  case atStart => exact rfl
  case round =>
    obtain rfl := hrel
    go_wp2_with fail
    go_ret
    exact ⟨rfl, rfl⟩
theorem longN_many (N : Nat) (a : Option Addr) (n c : Nat) (w : World) (hn : N < n) : Calls Tryz.prog 29 #[.slice a n c, .int .i64 (N : Int)] w fun e w' => e = .returned (.int .i64 1) ∧ w' = w := by
  have hn2 : (N : Int) < (n : Int) := by omega
  go_enter Tryz.func29, Tryz.ntmps29
  go_wp2_with fail
  go_ret
  exact ⟨rfl, rfl⟩
theorem longN_any (N : Nat) (hN : N ≤ 1000) (L : List Bm) (v : Value) (w : World) (hv : MsAt w v L) : Calls Tryz.prog 29 #[v, .int .i64 (N : Int)] w fun e w' => e = .returned (.int .i64 (if okLN N L then 0 else 1)) ∧ w' = w := by
  obtain ⟨a, c, rfl, _, h⟩ := hv
  by_cases hn : L.length ≤ N
  · cases L with
    | nil => exact longN_none N a c w
    | cons x r =>
      obtain ⟨b, o, rfl, h2⟩ := h (by simp)
      exact longN_some N hN (x :: r) b o c w hn h2
  · have : okLN N L = false := by unfold okLN; rw [decide_eq_false hn]; rfl
    rw [this]
    exact longN_many N a L.length c w (by omega)

end Ve
end Go.Proofs.YtanponneancajaaGreatDoor

/-
  What FindOf of the document's answer says stands beside the ways of the graph.
-/


/-
  What is reached, in the order of an index; plain.
-/
namespace Go.Proofs.YtanponneancajaaGreatDoor
open Go.RowKit Go.Maps
namespace Ve

theorem goM_mem {w : World} {v : Value} {Q : List Raw} {L : List Ent} {roots : List Bm} {T : By} (I : Ixs w v Q L) (h : Came (reqQ Q L) (univ L) roots T) {m : Bm} : m ∈ goM T Q ↔ Rch (reqQ Q L) roots m := by
  constructor
  · intro hm
    obtain ⟨r, hr, rfl⟩ := List.mem_map.1 hm
    exact (h.cameB _).1 (List.mem_filter.1 hr).2
  · intro hm
    have hc := (h.cameB m).2 hm
    have hu := h.b.un m (cameB_iff.1 hc)
    obtain ⟨e, he, rfl⟩ := List.mem_map.1 hu
    obtain ⟨j, hj, rfl⟩ := List.getElem_of_mem he
    have hjq : j < Q.length := by rw [I.ln]; exact hj
    have hm1 := (I.ok j hjq hj).m
    refine List.mem_map.2 ⟨Q[j], List.mem_filter.2 ⟨List.getElem_mem hjq, ?_⟩, hm1⟩
    show cameB T Q[j].1 = true
    rw [hm1]
    exact hc
theorem goM_univ {w : World} {v : Value} {Q : List Raw} {L : List Ent} {T : By} (I : Ixs w v Q L) {m : Bm} (h : m ∈ goM T Q) : m ∈ univ L := by
  obtain ⟨r, hr, rfl⟩ := List.mem_map.1 h
  obtain ⟨j, hj, rfl⟩ := List.getElem_of_mem (List.mem_filter.1 hr).1
  obtain ⟨hj', e⟩ := ixs_get I hj
  exact List.mem_map.2 ⟨L[j], List.getElem_mem hj', e.symm⟩
theorem goM_same {Q : List Raw} {T T' : By} (h : ∀ m, cameB T m = cameB T' m) : goM T Q = goM T' Q := by
  unfold goM goQ
  rw [show (fun r : Raw => cameB T r.1) = fun r => cameB T' r.1 from funext fun r => h r.1]
theorem goM_len (T : By) (Q : List Raw) : (goM T Q).length ≤ Q.length := by
  unfold goM goQ
  rw [List.length_map]
  exact List.length_filter_le _ _
theorem chkG_in {w : World} {v : Value} {Q : List Raw} {L : List Ent} {R : List Bm} (I : Ixs w v Q L) (hc : (chk Q L).1 = 0) (h : ∀ m, m ∈ R → m ∈ univ L) : (chkG Q L R).1 = 0 := by
  rw [chkG_ok hc]
  have : fstE (nonE Q R) R.length = none := fstE_none fun j hj => by
    rw [nonE_at hj]
    unfold nonW
    obtain ⟨k, hk⟩ := (found_iff I R[j]).1 (h _ (List.getElem_mem hj))
    rw [hk, if_neg (by omega)]
  exact codeE_none this
/-- Of what is reached the same is reached. -/
theorem goM_again {w : World} {v : Value} {Q : List Raw} {L : List Ent} {roots : List Bm} {T T' : By} (I : Ixs w v Q L) (h : Came (reqQ Q L) (univ L) roots T) (h' : Came (reqQ Q L) (univ L) (goM T Q) T') : goM T' Q = goM T Q :=
  goM_same fun m => by
    have e : cameB T' m = true ↔ cameB T m = true := by
      rw [h'.cameB, h.cameB]
      exact Rch.again (fun m => goM_mem I h)
    cases h1 : cameB T' m with
    | true => exact (e.1 h1).symm
    | false =>
      cases h2 : cameB T m with
      | true => rw [e.2 h2] at h1; cases h1
      | false => rfl
end Ve
end Go.Proofs.YtanponneancajaaGreatDoor

/-
  What Check, Less and Max of package ver answer, and the document's IsLess and MaxOf: the same; nothing old in memory turns.
-/
namespace Go.Proofs.YtanponneancajaaGreatDoor
open Go.RowKit
namespace Ve

def maxB (s t : ByteArray) : ByteArray :=
  if verErr s.data.toList = 0 then (if verErr t.data.toList = 0 then (if ordV s.data.toList t.data.toList < 0 then t else s) else s) else if verErr t.data.toList = 0 then t else ⟨#[]⟩

set_option maxHeartbeats 1000000 in
theorem isLess_any (s t : ByteArray) (w : World) (hs : s.size < 999999) (ht : t.size < 999999) :
    Calls Tryz.prog 14 #[.string s, .string t] w fun e w' => e = .returned (.bool (lessB s.data.toList t.data.toList)) ∧ Below w.heap.size w w' := by
  have HL := hid (show lessB s.data.toList t.data.toList = (decide (verErr s.data.toList = 0) && (decide (verErr t.data.toList = 0) && decide (ordV s.data.toList t.data.toList < 0))) from rfl)
  have HA := hid (isVer_any s w (by omega))
  have HT := hid (fun W => isVer_any t W (by omega))
  by_cases h1 : verErr s.data.toList = 0
  all_goals by_cases h2 : verErr t.data.toList = 0
  · have HO := hid (fun W => orderVer_any s t W hs ht h1 h2)
    rw [decide_eq_true h1] at HA
    rw [decide_eq_true h2] at HT
    rw [decide_eq_true h1, decide_eq_true h2] at HL
    clear h1 h2
    generalize ordV s.data.toList t.data.toList = k at *
    go_enter Tryz.func14, Tryz.ntmps14
    go_wp2_with fail
    refine HA.out.mono ?_
    rintro e w1 ⟨rfl, hb1⟩
    have HB1 := hid hb1
    clear hb1
    go_wp2_with fail
    refine (HT.out _).mono ?_
    rintro e w2 ⟨rfl, hb2⟩
    have HB2 := hid (HB1.out.trans (hb2.mono HB1.out.size))
    clear hb2
    go_wp2_with fail
    refine (HO.out _).mono ?_
    rintro e w3 ⟨rfl, hb3⟩
    have HB3 := hid (HB2.out.trans (hb3.mono HB2.out.size))
    clear hb3
    go_wp2_with fail
    go_ret
    exact ⟨ret_bool (by rw [HL.out]; rfl), HB3.out⟩
  · rw [decide_eq_true h1] at HA
    rw [decide_eq_false h2] at HT
    rw [decide_eq_true h1, decide_eq_false h2] at HL
    clear h1 h2
    go_enter Tryz.func14, Tryz.ntmps14
    go_wp2_with fail
    refine HA.out.mono ?_
    rintro e w1 ⟨rfl, hb1⟩
    have HB1 := hid hb1
    clear hb1
    go_wp2_with fail
    refine (HT.out _).mono ?_
    rintro e w2 ⟨rfl, hb2⟩
    have HB2 := hid (HB1.out.trans (hb2.mono HB1.out.size))
    clear hb2
    go_wp2_with fail
    go_ret
    exact ⟨ret_bool (by rw [HL.out]; rfl), HB2.out⟩
  · rw [decide_eq_false h1] at HA
    rw [decide_eq_true h2] at HT
    rw [decide_eq_false h1] at HL
    clear h1 h2
    go_enter Tryz.func14, Tryz.ntmps14
    go_wp2_with fail
    refine HA.out.mono ?_
    rintro e w1 ⟨rfl, hb1⟩
    have HB1 := hid hb1
    clear hb1
    go_wp2_with fail
    refine (HT.out _).mono ?_
    rintro e w2 ⟨rfl, hb2⟩
    have HB2 := hid (HB1.out.trans (hb2.mono HB1.out.size))
    clear hb2
    go_wp2_with fail
    go_ret
    exact ⟨ret_bool (by rw [HL.out]; rfl), HB2.out⟩
  · rw [decide_eq_false h1] at HA
    rw [decide_eq_false h2] at HT
    rw [decide_eq_false h1] at HL
    clear h1 h2
    go_enter Tryz.func14, Tryz.ntmps14
    go_wp2_with fail
    refine HA.out.mono ?_
    rintro e w1 ⟨rfl, hb1⟩
    have HB1 := hid hb1
    clear hb1
    go_wp2_with fail
    refine (HT.out _).mono ?_
    rintro e w2 ⟨rfl, hb2⟩
    have HB2 := hid (HB1.out.trans (hb2.mono HB1.out.size))
    clear hb2
    go_wp2_with fail
    go_ret
    exact ⟨ret_bool (by rw [HL.out]; rfl), HB2.out⟩

theorem ret_str {a b : ByteArray} (h : a = b) : Ending.returned (.string a) = .returned (.string b) := by rw [h]
set_option maxHeartbeats 1000000 in
theorem maxOf_any (s t : ByteArray) (w : World) (hs : s.size < 999999) (ht : t.size < 999999) :
    Calls Tryz.prog 18 #[.string s, .string t] w fun e w' => e = .returned (.string (maxB s t)) ∧ Below w.heap.size w w' := by
  have HL := hid (show maxB s t = if verErr s.data.toList = 0 then (if verErr t.data.toList = 0 then (if ordV s.data.toList t.data.toList < 0 then t else s) else s) else if verErr t.data.toList = 0 then t else ⟨#[]⟩ from rfl)
  have HA := hid (isVer_any s w (by omega))
  have HT := hid (fun W => isVer_any t W (by omega))
  by_cases h1 : verErr s.data.toList = 0
  all_goals by_cases h2 : verErr t.data.toList = 0
  · have HO := hid (fun W => orderVer_any s t W hs ht h1 h2)
    rw [decide_eq_true h1] at HA
    rw [decide_eq_true h2] at HT
    rw [if_pos h1, if_pos h2] at HL
    clear h1 h2
    generalize ordV s.data.toList t.data.toList = k at *
    by_cases hk : k < 0
    · rw [if_pos hk] at HL
      go_enter Tryz.func18, Tryz.ntmps18
      go_wp2_with fail
      refine HA.out.mono ?_
      rintro e w1 ⟨rfl, hb1⟩
      have HB1 := hid hb1
      clear hb1
      go_wp2_with fail
      refine (HT.out _).mono ?_
      rintro e w2 ⟨rfl, hb2⟩
      have HB2 := hid (HB1.out.trans (hb2.mono HB1.out.size))
      clear hb2
      go_wp2_with fail
      refine (HO.out _).mono ?_
      rintro e w3 ⟨rfl, hb3⟩
      have HB3 := hid (HB2.out.trans (hb3.mono HB2.out.size))
      clear hb3
      go_wp2_with fail
      go_ret
      exact ⟨ret_str HL.out.symm, HB3.out⟩
    · rw [if_neg hk] at HL
      go_enter Tryz.func18, Tryz.ntmps18
      go_wp2_with fail
      refine HA.out.mono ?_
      rintro e w1 ⟨rfl, hb1⟩
      have HB1 := hid hb1
      clear hb1
      go_wp2_with fail
      refine (HT.out _).mono ?_
      rintro e w2 ⟨rfl, hb2⟩
      have HB2 := hid (HB1.out.trans (hb2.mono HB1.out.size))
      clear hb2
      go_wp2_with fail
      refine (HO.out _).mono ?_
      rintro e w3 ⟨rfl, hb3⟩
      have HB3 := hid (HB2.out.trans (hb3.mono HB2.out.size))
      clear hb3
      go_wp2_with fail
      go_ret
      exact ⟨ret_str HL.out.symm, HB3.out⟩
  · rw [decide_eq_true h1] at HA
    rw [decide_eq_false h2] at HT
    rw [if_pos h1, if_neg h2] at HL
    clear h1 h2
    go_enter Tryz.func18, Tryz.ntmps18
    go_wp2_with fail
    refine HA.out.mono ?_
    rintro e w1 ⟨rfl, hb1⟩
    have HB1 := hid hb1
    clear hb1
    go_wp2_with fail
    refine (HT.out _).mono ?_
    rintro e w2 ⟨rfl, hb2⟩
    have HB2 := hid (HB1.out.trans (hb2.mono HB1.out.size))
    clear hb2
    go_wp2_with fail
    go_ret
    exact ⟨ret_str HL.out.symm, HB2.out⟩
  · rw [decide_eq_false h1] at HA
    rw [decide_eq_true h2] at HT
    rw [if_neg h1, if_pos h2] at HL
    clear h1 h2
    go_enter Tryz.func18, Tryz.ntmps18
    go_wp2_with fail
    refine HA.out.mono ?_
    rintro e w1 ⟨rfl, hb1⟩
    have HB1 := hid hb1
    clear hb1
    go_wp2_with fail
    refine (HT.out _).mono ?_
    rintro e w2 ⟨rfl, hb2⟩
    have HB2 := hid (HB1.out.trans (hb2.mono HB1.out.size))
    clear hb2
    go_wp2_with fail
    go_ret
    exact ⟨ret_str HL.out.symm, HB2.out⟩
  · rw [decide_eq_false h1] at HA
    rw [decide_eq_false h2] at HT
    rw [if_neg h1, if_neg h2] at HL
    clear h1 h2
    go_enter Tryz.func18, Tryz.ntmps18
    go_wp2_with fail
    refine HA.out.mono ?_
    rintro e w1 ⟨rfl, hb1⟩
    have HB1 := hid hb1
    clear hb1
    go_wp2_with fail
    refine (HT.out _).mono ?_
    rintro e w2 ⟨rfl, hb2⟩
    have HB2 := hid (HB1.out.trans (hb2.mono HB1.out.size))
    clear hb2
    go_wp2_with fail
    go_ret
    exact ⟨ret_str HL.out.symm, HB2.out⟩

theorem check_any (s : ByteArray) (aT aB : Addr) (m : Int) (w : World) (hs : s.size < 4294967281) (S : Vs w aT aB m) :
    Calls Tryz.prog 11 #[.string s] w fun e w' => e = .returned (errV aT aB (verErr s.data.toList)) ∧ Below w.heap.size w w' := by
  have HC := hid (vsplit_any s aT aB m w hs S)
  clear S
  go_enter Tryz.func11, Tryz.ntmps11
  go_wp2_with fail
  refine HC.out.mono ?_
  rintro e w1 ⟨h1, hb⟩
  have HB := hid hb
  clear hb
  rcases h1 with ⟨h0, rfl⟩ | ⟨h0, v, X, rfl, _, hst⟩
  · obtain ⟨a, ha⟩ := errV_ne aT aB h0
    have HE := hid ha
    rw [ha]
    clear h0 ha
    go_wp2_with fail
    go_ret
    exact ⟨by rw [HE.out]; rfl, HB.out.alloc HB.out.size _⟩
  · obtain ⟨p, n, c, rfl⟩ := hst.slice
    have HE := hid (show errV aT aB (verErr s.data.toList) = .nilIface by rw [h0]; rfl)
    clear h0 hst
    go_wp2_with fail
    go_ret
    exact ⟨by rw [HE.out]; rfl, HB.out.alloc HB.out.size _⟩

set_option maxHeartbeats 1000000 in
theorem max_11a (k : Int) (x y z x' y' z' : Int) (X Y : List ByteArray) (s t : ByteArray) (aT aB : Addr) (m : Int) (w : World) (S : Vs w aT aB m) (hk : k < 0)
    (hA : Calls Tryz.prog 9 #[.string s] w fun e w' => GoodP w w' e x y z X) (hT : ∀ W, Vs W aT aB m → Calls Tryz.prog 9 #[.string t] W fun e w' => GoodP W w' e x' y' z' Y)
    (hC : ∀ W va vb, StrsAt W va X → StrsAt W vb Y → Calls Tryz.prog 58 #[.agg #[.int .i64 x, .int .i64 y, .int .i64 z, va], .agg #[.int .i64 x', .int .i64 y', .int .i64 z', vb]] W fun e w' => e = .returned (.int .i64 k) ∧ Below W.heap.size W w') :
    Calls Tryz.prog 17 #[.string s, .string t] w fun e w' => e = .returned (.string t) ∧ Below w.heap.size w w' := by
  have HC := hid hC
  clear hC
  have HA := hid hA
  have HT := hid hT
  have HS := hid S
  clear hA hT S
  go_enter Tryz.func17, Tryz.ntmps17
  go_wp2_with fail
  refine HA.out.mono ?_
  rintro e w1 ⟨v, rfl, hst, hb1⟩
  obtain ⟨pa, na, ca, rfl⟩ := hst.slice
  have HST := hid hst
  clear hst
  have HB1 := hid hb1
  have HB2 := hid ((Below.refl w1.heap.size w1).alloc (Nat.le_refl _) (.cells #[.int .i64 x, .int .i64 y, .int .i64 z, .slice pa na ca] 30))
  have HS1 := hid ((HS.out.below hb1).below HB2.out)
  clear hb1
  go_wp2_with fail
  refine (HT.out _ HS1.out).mono ?_
  rintro e w2 ⟨v, rfl, hst, hb2⟩
  obtain ⟨pb, nb, cb, rfl⟩ := hst.slice
  have HTT := hid hst
  clear hst
  obtain ⟨⟨r0, r1, r2, r3⟩, rf, rz⟩ := res4 (hb2.mono (by simp))
  have HB12 := hid (HB2.out.trans (hb2.mono (by simp)))
  have HB3 := hid (HB1.out.trans (HB12.out.mono HB1.out.size))
  have HBA := hid ((Below.refl w2.heap.size w2).alloc (Nat.le_refl _) (.cells #[.int .i64 x', .int .i64 y', .int .i64 z', .slice pb nb cb] 30))
  have HB4 := hid (HB3.out.trans (HBA.out.mono HB3.out.size))
  clear hb2
  have HSA := hid ((HST.out.below HB12.out).below HBA.out)
  have HSB := hid (HTT.out.below HBA.out)
  go_wp2_with fail
  refine (HC.out _ _ _ HSA.out HSB.out).mono ?_
  rintro e w3 ⟨rfl, hb3⟩
  have HB5 := hid (HB4.out.trans (hb3.mono HB4.out.size))
  clear hb3
  go_wp2_with fail
  go_ret
  exact ⟨rfl, HB5.out⟩

set_option maxHeartbeats 1000000 in
theorem max_11b (k : Int) (x y z x' y' z' : Int) (X Y : List ByteArray) (s t : ByteArray) (aT aB : Addr) (m : Int) (w : World) (S : Vs w aT aB m) (hk : ¬ k < 0)
    (hA : Calls Tryz.prog 9 #[.string s] w fun e w' => GoodP w w' e x y z X) (hT : ∀ W, Vs W aT aB m → Calls Tryz.prog 9 #[.string t] W fun e w' => GoodP W w' e x' y' z' Y)
    (hC : ∀ W va vb, StrsAt W va X → StrsAt W vb Y → Calls Tryz.prog 58 #[.agg #[.int .i64 x, .int .i64 y, .int .i64 z, va], .agg #[.int .i64 x', .int .i64 y', .int .i64 z', vb]] W fun e w' => e = .returned (.int .i64 k) ∧ Below W.heap.size W w') :
    Calls Tryz.prog 17 #[.string s, .string t] w fun e w' => e = .returned (.string s) ∧ Below w.heap.size w w' := by
  have HC := hid hC
  clear hC
  have HA := hid hA
  have HT := hid hT
  have HS := hid S
  clear hA hT S
  go_enter Tryz.func17, Tryz.ntmps17
  go_wp2_with fail
  refine HA.out.mono ?_
  rintro e w1 ⟨v, rfl, hst, hb1⟩
  obtain ⟨pa, na, ca, rfl⟩ := hst.slice
  have HST := hid hst
  clear hst
  have HB1 := hid hb1
  have HB2 := hid ((Below.refl w1.heap.size w1).alloc (Nat.le_refl _) (.cells #[.int .i64 x, .int .i64 y, .int .i64 z, .slice pa na ca] 30))
  have HS1 := hid ((HS.out.below hb1).below HB2.out)
  clear hb1
  go_wp2_with fail
  refine (HT.out _ HS1.out).mono ?_
  rintro e w2 ⟨v, rfl, hst, hb2⟩
  obtain ⟨pb, nb, cb, rfl⟩ := hst.slice
  have HTT := hid hst
  clear hst
  obtain ⟨⟨r0, r1, r2, r3⟩, rf, rz⟩ := res4 (hb2.mono (by simp))
  have HB12 := hid (HB2.out.trans (hb2.mono (by simp)))
  have HB3 := hid (HB1.out.trans (HB12.out.mono HB1.out.size))
  have HBA := hid ((Below.refl w2.heap.size w2).alloc (Nat.le_refl _) (.cells #[.int .i64 x', .int .i64 y', .int .i64 z', .slice pb nb cb] 30))
  have HB4 := hid (HB3.out.trans (HBA.out.mono HB3.out.size))
  clear hb2
  have HSA := hid ((HST.out.below HB12.out).below HBA.out)
  have HSB := hid (HTT.out.below HBA.out)
  go_wp2_with fail
  refine (HC.out _ _ _ HSA.out HSB.out).mono ?_
  rintro e w3 ⟨rfl, hb3⟩
  have HB5 := hid (HB4.out.trans (hb3.mono HB4.out.size))
  clear hb3
  go_wp2_with fail
  go_ret
  exact ⟨rfl, HB5.out⟩

set_option maxHeartbeats 1000000 in
theorem max_10 (x y z : Int) (X : List ByteArray) (s t : ByteArray) (aT aB : Addr) (m : Int) (w : World) (S : Vs w aT aB m)
    (hA : Calls Tryz.prog 9 #[.string s] w fun e w' => GoodP w w' e x y z X) (hT : ∀ W, Vs W aT aB m → Calls Tryz.prog 9 #[.string t] W fun e w' => BadP W w' e) :
    Calls Tryz.prog 17 #[.string s, .string t] w fun e w' => e = .returned (.string s) ∧ Below w.heap.size w w' := by
  have HA := hid hA
  have HT := hid hT
  have HS := hid S
  clear hA hT S
  go_enter Tryz.func17, Tryz.ntmps17
  go_wp2_with fail
  refine HA.out.mono ?_
  rintro e w1 ⟨v, rfl, hst, hb1⟩
  obtain ⟨pa, na, ca, rfl⟩ := hst.slice
  have HST := hid hst
  clear hst
  have HB1 := hid hb1
  have HB2 := hid ((Below.refl w1.heap.size w1).alloc (Nat.le_refl _) (.cells #[.int .i64 x, .int .i64 y, .int .i64 z, .slice pa na ca] 30))
  have HS1 := hid ((HS.out.below hb1).below HB2.out)
  clear hb1
  go_wp2_with fail
  refine (HT.out _ HS1.out).mono ?_
  rintro e w2 ⟨a2, rfl, hb2⟩
  obtain ⟨⟨r0, r1, r2, r3⟩, rf, rz⟩ := res4 (hb2.mono (by simp))
  have HB12 := hid (HB2.out.trans (hb2.mono (by simp)))
  have HB3 := hid (HB1.out.trans (HB12.out.mono HB1.out.size))
  have HBA := hid ((Below.refl w2.heap.size w2).alloc (Nat.le_refl _) (.cells #[.int .i64 0, .int .i64 0, .int .i64 0, .slice none 0 0] 30))
  have HB4 := hid (HB3.out.trans (HBA.out.mono HB3.out.size))
  clear hb2
  go_wp2_with fail
  go_ret
  exact ⟨rfl, HB4.out⟩

set_option maxHeartbeats 1000000 in
theorem max_01 (x' y' z' : Int) (Y : List ByteArray) (s t : ByteArray) (aT aB : Addr) (m : Int) (w : World) (S : Vs w aT aB m)
    (hA : Calls Tryz.prog 9 #[.string s] w fun e w' => BadP w w' e) (hT : ∀ W, Vs W aT aB m → Calls Tryz.prog 9 #[.string t] W fun e w' => GoodP W w' e x' y' z' Y) :
    Calls Tryz.prog 17 #[.string s, .string t] w fun e w' => e = .returned (.string t) ∧ Below w.heap.size w w' := by
  have HA := hid hA
  have HT := hid hT
  have HS := hid S
  clear hA hT S
  go_enter Tryz.func17, Tryz.ntmps17
  go_wp2_with fail
  refine HA.out.mono ?_
  rintro e w1 ⟨a1, rfl, hb1⟩
  have HB1 := hid hb1
  have HB2 := hid ((Below.refl w1.heap.size w1).alloc (Nat.le_refl _) (.cells #[.int .i64 0, .int .i64 0, .int .i64 0, .slice none 0 0] 30))
  have HS1 := hid ((HS.out.below hb1).below HB2.out)
  clear hb1
  go_wp2_with fail
  refine (HT.out _ HS1.out).mono ?_
  rintro e w2 ⟨v, rfl, hst, hb2⟩
  obtain ⟨pb, nb, cb, rfl⟩ := hst.slice
  have HTT := hid hst
  clear hst
  obtain ⟨⟨r0, r1, r2, r3⟩, rf, rz⟩ := res4 (hb2.mono (by simp))
  have HB12 := hid (HB2.out.trans (hb2.mono (by simp)))
  have HB3 := hid (HB1.out.trans (HB12.out.mono HB1.out.size))
  have HBA := hid ((Below.refl w2.heap.size w2).alloc (Nat.le_refl _) (.cells #[.int .i64 x', .int .i64 y', .int .i64 z', .slice pb nb cb] 30))
  have HB4 := hid (HB3.out.trans (HBA.out.mono HB3.out.size))
  clear hb2
  go_wp2_with fail
  go_ret
  exact ⟨rfl, HB4.out⟩

set_option maxHeartbeats 1000000 in
theorem max_00 (s t : ByteArray) (aT aB : Addr) (m : Int) (w : World) (S : Vs w aT aB m)
    (hA : Calls Tryz.prog 9 #[.string s] w fun e w' => BadP w w' e) (hT : ∀ W, Vs W aT aB m → Calls Tryz.prog 9 #[.string t] W fun e w' => BadP W w' e) :
    Calls Tryz.prog 17 #[.string s, .string t] w fun e w' => e = .returned (.string ⟨#[]⟩) ∧ Below w.heap.size w w' := by
  have HA := hid hA
  have HT := hid hT
  have HS := hid S
  clear hA hT S
  go_enter Tryz.func17, Tryz.ntmps17
  go_wp2_with fail
  refine HA.out.mono ?_
  rintro e w1 ⟨a1, rfl, hb1⟩
  have HB1 := hid hb1
  have HB2 := hid ((Below.refl w1.heap.size w1).alloc (Nat.le_refl _) (.cells #[.int .i64 0, .int .i64 0, .int .i64 0, .slice none 0 0] 30))
  have HS1 := hid ((HS.out.below hb1).below HB2.out)
  clear hb1
  go_wp2_with fail
  refine (HT.out _ HS1.out).mono ?_
  rintro e w2 ⟨a2, rfl, hb2⟩
  obtain ⟨⟨r0, r1, r2, r3⟩, rf, rz⟩ := res4 (hb2.mono (by simp))
  have HB12 := hid (HB2.out.trans (hb2.mono (by simp)))
  have HB3 := hid (HB1.out.trans (HB12.out.mono HB1.out.size))
  have HBA := hid ((Below.refl w2.heap.size w2).alloc (Nat.le_refl _) (.cells #[.int .i64 0, .int .i64 0, .int .i64 0, .slice none 0 0] 30))
  have HB4 := hid (HB3.out.trans (HBA.out.mono HB3.out.size))
  clear hb2
  go_wp2_with fail
  go_ret
  exact ⟨rfl, HB4.out⟩

theorem max_any (s t : ByteArray) (aT aB : Addr) (m : Int) (w : World) (hs : s.size < 999999) (ht : t.size < 999999) (S : Vs w aT aB m) :
    Calls Tryz.prog 17 #[.string s, .string t] w fun e w' => e = .returned (.string (maxB s t)) ∧ Below w.heap.size w w' := by
  obtain ⟨X, hX⟩ : ∃ X, bl X = preOf s.data.toList := ⟨_, bl_strs _⟩
  obtain ⟨Y, hY⟩ : ∃ X, bl X = preOf t.data.toList := ⟨_, bl_strs _⟩
  obtain ⟨lX, pX⟩ := pre_bounds hs hX
  obtain ⟨lY, pY⟩ := pre_bounds ht hY
  unfold maxB
  by_cases h1 : verErr s.data.toList = 0
  all_goals by_cases h2 : verErr t.data.toList = 0
  · rw [if_pos h1, if_pos h2]
    have hC : ∀ W va vb, StrsAt W va X → StrsAt W vb Y → Calls Tryz.prog 58 #[.agg #[.int .i64 (nAt s.data.toList 0), .int .i64 (nAt s.data.toList 1), .int .i64 (nAt s.data.toList 2), va], .agg #[.int .i64 (nAt t.data.toList 0), .int .i64 (nAt t.data.toList 1), .int .i64 (nAt t.data.toList 2), vb]] W fun e w' => e = .returned (.int .i64 (ordV s.data.toList t.data.toList)) ∧ Below W.heap.size W w' := by
      intro W va vb ha hb
      unfold ordV
      rw [← hX, ← hY]
      exact compare_any _ _ _ _ _ _ va vb X Y W lX lY pX pY ha hb
    by_cases hk : ordV s.data.toList t.data.toList < 0
    · rw [if_pos hk]
      exact max_11a _ _ _ _ _ _ _ X Y s t aT aB m w S hk (vsplit_is s aT aB m w (by omega) S h1 X hX) (fun W SW => vsplit_is t aT aB m W (by omega) SW h2 Y hY) hC
    · rw [if_neg hk]
      exact max_11b _ _ _ _ _ _ _ X Y s t aT aB m w S hk (vsplit_is s aT aB m w (by omega) S h1 X hX) (fun W SW => vsplit_is t aT aB m W (by omega) SW h2 Y hY) hC
  · rw [if_pos h1, if_neg h2]
    exact max_10 _ _ _ X s t aT aB m w S (vsplit_is s aT aB m w (by omega) S h1 X hX) (fun W SW => vsplit_not t aT aB m W (by omega) SW h2)
  · rw [if_neg h1, if_pos h2]
    exact max_01 _ _ _ Y s t aT aB m w S (vsplit_not s aT aB m w (by omega) S h1) (fun W SW => vsplit_is t aT aB m W (by omega) SW h2 Y hY)
  · rw [if_neg h1, if_neg h2]
    exact max_00 s t aT aB m w S (vsplit_not s aT aB m w (by omega) S h1) (fun W SW => vsplit_not t aT aB m W (by omega) SW h2)
end Ve
end Go.Proofs.YtanponneancajaaGreatDoor

/-
  Modules appended to an own row; the document's IsAhead.
-/
namespace Go.Proofs.YtanponneancajaaGreatDoor
open Go.RowKit Go.Maps
namespace Ve

/-- A row of modules, appended to an own one. -/
theorem both_run (X Y : List Bm) (dv sv : Value) (W : World) (B : Nat) (hB : B ≤ W.heap.size) (hX : X.length ≤ 1000) (hY : Y.length ≤ 1000) (ho : W.ownsRow B 51 2 dv X.length (flatM X)) (h : MsAt W sv Y) (he : Em sv Y) :
    ∃ v' W', (Builtin.append_ #[52, 52] 52 #[dv, sv]).run Tryz.prog W = .ok v' W' ∧ W'.ownsRow B 51 2 v' (X ++ Y).length (flatM (X ++ Y)) ∧ W.grownBy W' dv.ownBlock := by
  obtain ⟨i0, hi, hz0, hz1, hz2⟩ := info_parts infoMod
  obtain ⟨a, c, rfl, hc, h2⟩ := h
  have some_case : ∀ a', (∀ j u, (flatM Y)[j]? = some u → W.cell? (a'.add j) = some u) → ∃ v' W', (Builtin.append_ #[52, 52] 52 #[dv, .slice (some a') Y.length c]).run Tryz.prog W = .ok v' W' ∧ W'.ownsRow B 51 2 v' (X ++ Y).length (flatM (X ++ Y)) ∧ W.grownBy W' dv.ownBlock := fun a' hcell => by
    obtain ⟨v', W', h3, h4, h5, _⟩ := run_append_own (P := Tryz.prog) W B 52 52 51 i0 _ 2 32 Tryz.underlying52 hi hz0 hz1 hz2 rfl (by decide) dv X.length (flatM X) ho a' Y.length c (flatM Y) (flatM_len Y) hcell (flat_one Y) (by unfold maxLen; omega) (by omega) hB
    exact ⟨v', W', h3, by rw [List.length_append, flatM_app]; exact h4, h5⟩
  cases Y with
  | nil =>
    rcases he a c rfl rfl with hz | ⟨a', hz⟩
    · refine ⟨dv, W, ?_, by simpa using ho, ⟨rfl, rfl, rfl, Nat.le_refl _, fun _ _ _ => rfl⟩⟩
      show (Builtin.append_ #[52, 52] 52 #[dv, .slice a 0 c]).run Tryz.prog W = _
      rw [hz]
      exact run_append_owned_none (P := Tryz.prog) (w := W) B 52 52 51 i0 2 Tryz.underlying52 hi dv X.length (flatM X) ho
    · have hz' : (Value.slice a ([] : List Bm).length c) = .slice (some a') ([] : List Bm).length c := hz
      rw [hz']
      exact some_case a' (fun j u hj => by simp [flatM] at hj)
  | cons x r =>
    obtain ⟨b, o, rfl, hcell⟩ := h2 (by simp)
    exact some_case ⟨b, o, none⟩ (fun j u hj => by rw [Addr.add_lit]; exact ms_flat hcell j u hj)
set_option maxHeartbeats 1000000 in
/-- pewholderref1.IsAhead. -/
theorem isA_any (a b : Bm) (w : World) (hv : a.2.size < 999999) (hu : b.2.size < 999999) :
    Calls Tryz.prog 180 #[.agg #[.string a.1, .string a.2], .agg #[.string b.1, .string b.2]] w fun e w' => e = .returned (.bool (mAhead a b)) ∧ Below w.heap.size w w' := by
  obtain ⟨p, v⟩ := a
  obtain ⟨q, u⟩ := b
  have HO := hid (show mAhead (p, v) (q, u) = if p.data.toList = q.data.toList then lessB v.data.toList u.data.toList else decide (Lib.compareBytes p.data.toList q.data.toList < 0) from rfl)
  have HB0 := hid (((Below.refl w.heap.size w).alloc (Nat.le_refl _) (.cells #[.string p, .string v] 51)).alloc (by simp) (.cells #[.string q, .string u] 51))
  simp only at hv hu
  by_cases h : p = q
  · subst h
    rw [if_pos rfl] at HO
    have he := str_refl p
    have HL := hid (fun W => isLess_any v u W hv hu)
    go_enter Tryz.func180, Tryz.ntmps180
    go_wp2_with fail
    refine (HL.out _).mono ?_
    rintro e w1 ⟨rfl, hb⟩
    have HB := hid (HB0.out.trans (hb.mono HB0.out.size))
    clear hb
    go_wp2_with fail
    go_ret
    exact ⟨ret_bool HO.out.symm, HB.out⟩
  · rw [if_neg (fun e => h (str_ext e))] at HO
    have he := str_ne h
    have HC := hid (show Op.bytesLess p.toList q.toList = decide (Lib.compareBytes p.data.toList q.data.toList < 0) by rw [cb_less, ByteArray.toList_eq, ByteArray.toList_eq])
    clear h
    go_enter Tryz.func180, Tryz.ntmps180
    go_wp2_with fail
    go_ret
    exact ⟨ret_bool (by rw [HO.out, ← HC.out]), HB0.out⟩
end Ve
end Go.Proofs.YtanponneancajaaGreatDoor
