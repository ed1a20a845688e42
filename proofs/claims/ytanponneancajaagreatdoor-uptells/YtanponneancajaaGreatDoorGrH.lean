/-
  What graph.Way answers.
-/
import Derived.Test.YtanponneancajaaGreatDoorGrG
namespace Go.Proofs.YtanponneancajaaGreatDoor
open Go.RowKit Go.Maps
namespace Ve

/-- What is asked ahead of a walk of an index and roots that are right. -/
structure Rgt (Q : List Raw) (L : List Ent) (roots : List Bm) : Prop where
  c : (chk Q L).1 = 0
  r : ∀ m, m ∈ roots → m ∈ univ L
theorem rgt_of {w : World} {v : Value} {Q : List Raw} {L : List Ent} {roots : List Bm} (I : Ixs w v Q L) (h0 : (chkG Q L roots).1 = 0) : Rgt Q L roots := by
  have hc0 : (chk Q L).1 = 0 := by
    by_cases hc : (chk Q L).1 = 0
    · exact hc
    · rw [chkG_bad hc] at h0; exact absurd h0 hc
  exact ⟨hc0, by rw [chkG_ok hc0] at h0; exact nonE_found I h0⟩
theorem univ_sz {L : List Ent} (sh : ∀ e, e ∈ L → ShE e) : ∀ m, m ∈ univ L → m.1.size ≤ maxLen ∧ m.2.size ≤ maxLen := fun m hm => by
  obtain ⟨e, he, rfl⟩ := List.mem_map.1 hm
  have := sh e he
  exact ⟨by have := this.p; unfold maxLen; omega, by have := this.v; unfold maxLen; omega⟩
theorem modNeq_ne {m f : Bm} (h : m ≠ f) (W : World) : (binOp .neq 51 (.agg #[.string m.1, .string m.2]) (.agg #[.string f.1, .string f.2])).run Tryz.prog W = .ok (.bool true) W := by
  rw [modNeq, decide_eq_false (fun e => h (Prod.ext e.1 e.2))]; rfl
/-- A way: from a root to a module, each required by the one ahead, no one twice. -/
structure WayOk (req : Bm → List Bm) (U roots : List Bm) (x : Bm) (Y : List Bm) : Prop where
  un : ∀ y, y ∈ Y → y ∈ U
  pos : 0 < Y.length
  first : Y[0]'pos ∈ roots
  last : Y.getLast? = some x
  nd : Y.Nodup
  ch : ∀ a (ha : a + 1 < Y.length), Y[a + 1] ∈ req Y[a]
  ds : Dst req roots x Y.length
def lenOf : Value → Nat
  | .slice _ n _ => n
  | _ => 0
/-- The way back, as far as it has come. -/
structure Wst (w0 W : World) (req : Bm → List Bm) (T : By) (x : Bm) (mb : Nat) (yv : Value) (k : Nat) (V : List Bm) : Prop where
  bl : Below w0.heap.size w0 W
  wy : Wy req T x k V.reverse
  ln : V.length + k ≤ T.length
  xc : ∃ h : k < T.length, W.heap[w0.heap.size]? = some (.cells #[.string (T[k]'h).1.1, .string (T[k]'h).1.2] 51 (0, 0))
  mp : ByAt W mb T
  row : W.ownsRow (w0.heap.size + 1) 51 2 yv V.length (flatM V)
theorem Wst.below {w0 W W' : World} {req : Bm → List Bm} {T : By} {x : Bm} {mb : Nat} {yv : Value} {k : Nat} {V : List Bm} (h : Wst w0 W req T x mb yv k V) (hb : Below W.heap.size W W') : Wst w0 W' req T x mb yv k V := by
  obtain ⟨hk, hc⟩ := h.xc
  exact ⟨h.bl.trans (hb.mono h.bl.size), h.wy, h.ln, ⟨hk, (hb.block _ (lt_of_blk hc)).trans hc⟩, h.mp.below hb, owns_below h.row hb⟩
/-- The box behind a store of a module. -/
def putM (W : World) (b : Nat) (m : Bm) : World := (W.setCell ⟨b, 0, none⟩ (.string m.1)).setCell ⟨b, 1, none⟩ (.string m.2)
theorem putM_block {W : World} {b : Nat} {c0 c1 : Value} {t : TypeId} (m : Bm) (h : W.heap[b]? = some (.cells #[c0, c1] t (0, 0))) : (putM W b m).heap[b]? = some (.cells #[.string m.1, .string m.2] t (0, 0)) := by
  unfold putM
  have h1 := set_block (o := 0) (x := .string m.1) h
  have h2 := set_block (o := 1) (x := .string m.2) h1
  simpa using h2
theorem putM_other {W : World} {b g : Nat} (m : Bm) (h : g ≠ b) : (putM W b m).heap[g]? = W.heap[g]? := by
  unfold putM
  rw [Below.heap_setCell _ _ _ _ h, Below.heap_setCell _ _ _ _ h]
theorem putM_size (W : World) (b : Nat) (m : Bm) : (putM W b m).heap.size = W.heap.size := by simp [putM, World.setCell]
theorem putM_owns {W : World} {b n : Nat} {e : TypeId} {v : Value} {xs : List Value} (m : Bm) (h : W.ownsRow (b + 1) e 2 v n xs) : (putM W b m).ownsRow (b + 1) e 2 v n xs := by
  have hne : v.ownBlock ≠ some b := fun hh => by have := (h.lt b hh).1; omega
  exact owns_set (owns_set h hne) hne
/-- One step back. -/
theorem Wst.more {w0 W w6 : World} {req : Bm → List Bm} {T : By} {x : Bm} {mb : Nat} {yv yv' : Value} {k : Nat} {V : List Bm} {o : Obj} (h : Wst w0 W req T x mb yv k V) (hk : k < T.length) {j : Nat} (hj : j < k) (e1 : (T[j]'(Nat.lt_trans hj hk)).1 = T[k].2) (e2 : T[k].1 ∈ req T[k].2)
    (hown : w6.ownsRow (w0.heap.size + 1) 51 2 yv' (V.length + 1) (flatM V ++ [.string T[k].2.1, .string T[k].2.2])) (hg : ((putM W w0.heap.size T[k].2).alloc o).grownBy w6 yv.ownBlock) :
    Wst w0 w6 req T x mb yv' j (V ++ [T[k].2]) := by
  obtain ⟨hk', hc⟩ := h.xc
  have hs := h.bl.size
  have l1 := lt_of_blk hc
  obtain ⟨es, clock, hm1⟩ := h.mp.block
  have l2 := lt_of_blk hm1
  have n1 : w0.heap.size ≠ mb := h.mp.ne hc
  have r1 : yv.ownBlock ≠ some w0.heap.size := fun hh => by have := (h.row.lt _ hh).1; omega
  have r2 : yv.ownBlock ≠ some mb := fun hh => by
    obtain ⟨hl, ⟨h1, _⟩ | ⟨g', cap, cur, q1, q2, q3, _⟩⟩ := h.row
    · rw [h1] at hh; cases hh
    · rw [q1] at hh
      have : g' = mb := by simpa [Value.ownBlock] using hh
      exact h.mp.ne q3 this
  have al := (Below.refl (putM W w0.heap.size T[k].2).heap.size (putM W w0.heap.size T[k].2)).alloc (Nat.le_refl _) o
  have keep : ∀ b, b < W.heap.size → yv.ownBlock ≠ some b → w6.heap[b]? = (putM W w0.heap.size T[k].2).heap[b]? := fun b hb hr => by
    rw [hg.block b (by simp [putM_size]; omega) (fun e => hr e.symm), al.block b (by rw [putM_size]; exact hb)]
  have b1 : Below w0.heap.size w0 (putM W w0.heap.size T[k].2) := (h.bl.setCell (p := ⟨w0.heap.size, 0, none⟩) (Nat.le_refl _) _).setCell (p := ⟨w0.heap.size, 1, none⟩) (Nat.le_refl _) _
  have b2 : Below w0.heap.size w0 w6 := (b1.alloc b1.size o).grown hg (by simp [putM_size]; omega) (fun q hq => by have := (h.row.lt q hq).1; omega)
  refine ⟨b2, ?_, ?_, ⟨Nat.lt_trans hj hk, ?_⟩, ?_, ?_⟩
  · rw [List.reverse_append, List.reverse_singleton, ← e1]
    exact Wy.next h.wy hk hj e1 e2
  · have := h.ln; simp; omega
  · rw [keep _ l1 r1, e1]; exact putM_block _ hc
  · exact (h.mp.heap (putM_other _ (Ne.symm n1))).heap (keep mb l2 r2)
  · rw [List.length_append, flatM_app]
    exact hown
theorem Wst.ok {w0 W : World} {Q : List Raw} {L : List Ent} {roots : List Bm} {T : By} {x : Bm} {mb : Nat} {yv : Value} {k : Nat} {V : List Bm} (h : Wst w0 W (reqQ Q L) T x mb yv k V) (hc : Came (reqQ Q L) (univ L) roots T) (hk : k < T.length) (e : T[k].1 = T[k].2) : WayOk (reqQ Q L) (univ L) roots x V.reverse := by
  refine ⟨fun y hy => by
    obtain ⟨p, hp, _, e⟩ := h.wy.far y hy
    exact hc.b.un y (whoT_mem.2 ⟨p, hp, e⟩), h.wy.pos, ?_, h.wy.last, h.wy.nd hc.b.nd, h.wy.chain, ?_⟩
  · rw [h.wy.head]
    rcases hc.b.by_ k hk with h1 | ⟨j, hj, h2, _⟩
    · exact h1.2
    · have := nd_get hc.b.nd (by omega) hk (h2.trans e.symm)
      omega
  · obtain ⟨G, hG⟩ := hc.l
    obtain ⟨t, ht, ht', hk', e1, e2⟩ := hG.way hc.b.nd h.wy
    have h1 : G[k] = 1 := by
      rcases hG.st k hk hk' with h1 | ⟨j, hj, h2, _⟩
      · exact h1.2
      · have := nd_get hc.b.nd (by omega) hk (h2.trans e.symm)
        omega
    have h2 := hG.dst hc.b.nd hc.r ht ht'
    rw [e1] at h2
    rw [show V.reverse.length = G[t] by omega]
    exact h2
end Ve
end Go.Proofs.YtanponneancajaaGreatDoor
