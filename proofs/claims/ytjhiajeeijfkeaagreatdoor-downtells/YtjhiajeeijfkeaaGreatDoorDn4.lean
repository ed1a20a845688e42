/-
  slices.Reverse of modules; whom a module came by, out of the map.
-/
import Derived.Test.YtjhiajeeijfkeaaGreatDoorDn3
import Derived.Test.YtjhiajeeijfkeaaGreatDoorDn1
import Derived.Laws.OwnMore
import Derived.Test.YtjhiajeeijfkeaaGreatDoorDn2
import Derived.Laws.MakeOwn
import Derived.Deep.DeepCutAuto
namespace Go.Proofs.YtjhiajeeijfkeaaGreatDoor
open Go.RowKit Go.Maps Go.Sort Go.Lib
namespace Ve

def encM (m : Bm) : List Value := [.string m.1, .string m.2]
/-- Whom a module came by. -/
theorem look_at {w : World} {b : Nat} {T : By} (h : ByAt w b T) (hT : szT T) (hn : (whoT T).Nodup) {k : Nat} (hk : k < T.length) :
    (Instr.lookup 90 (.map (some b)) (.agg #[.string T[k].1.1, .string T[k].1.2]) false).run Tryz.prog w = .ok (.agg #[.string T[k].2.1, .string T[k].2.2]) w := by
  have hs := hT T[k] (List.getElem_mem hk)
  obtain ⟨v, ps, hrun, hv⟩ := World.ownsMap.lookup h modKey Tryz.underlying90 (zeroMod w) (rB_mod _) (keyOf_mod T[k].1 hs.1 hs.2)
  rw [datB_at hT hn hk] at hv
  obtain rfl := rB_inv hv
  exact hrun
end Ve
end Go.Proofs.YtjhiajeeijfkeaaGreatDoor

/-
  What graph.Way answers.
-/
namespace Go.Proofs.YtjhiajeeijfkeaaGreatDoor
open Go.RowKit Go.Maps
namespace Ve

/-- What is asked ahead of a walk of an index and roots that are right. -/
structure Rgt (Q : List Raw) (L : List Ent) (roots : List Bm) : Prop where
  c : (chk Q L).1 = 0
  r : ∀ m, m ∈ roots → m ∈ univ L
theorem rgt_of {w : World} {v : Value} {Q : List Raw} {L : List Ent} {roots : List Bm} (I : Ixs w v Q L) (h0 : (chkG Q L roots).1 = 0) : Rgt Q L roots := by
  have hc0 : (chk Q L).1 = 0 := by
    by_cases hc : (chk Q L).1 = 0
    · exact hc
    · rw [chkG_bad hc] at h0; exact absurd h0 hc
  exact ⟨hc0, by rw [chkG_ok hc0] at h0; exact nonE_found I h0⟩
theorem univ_sz {L : List Ent} (sh : ∀ e, e ∈ L → ShE e) : ∀ m, m ∈ univ L → m.1.size ≤ maxLen ∧ m.2.size ≤ maxLen := fun m hm => by
  obtain ⟨e, he, rfl⟩ := List.mem_map.1 hm
  have := sh e he
  exact ⟨by have := this.p; unfold maxLen; omega, by have := this.v; unfold maxLen; omega⟩
theorem modNeq_ne {m f : Bm} (h : m ≠ f) (W : World) : (binOp .neq 36 (.agg #[.string m.1, .string m.2]) (.agg #[.string f.1, .string f.2])).run Tryz.prog W = .ok (.bool true) W := by
  rw [modNeq, decide_eq_false (fun e => h (Prod.ext e.1 e.2))]; rfl
/-- A way: from a root to a module, each required by the one ahead, no one twice. -/
structure WayOk (req : Bm → List Bm) (U roots : List Bm) (x : Bm) (Y : List Bm) : Prop where
  un : ∀ y, y ∈ Y → y ∈ U
  pos : 0 < Y.length
  first : Y[0]'pos ∈ roots
  last : Y.getLast? = some x
  nd : Y.Nodup
  ch : ∀ a (ha : a + 1 < Y.length), Y[a + 1] ∈ req Y[a]
  ds : Dst req roots x Y.length
def lenOf : Value → Nat
  | .slice _ n _ => n
  | _ => 0
/-- The way back, as far as it has come. -/
structure Wst (w0 W : World) (req : Bm → List Bm) (T : By) (x : Bm) (mb : Nat) (yv : Value) (k : Nat) (V : List Bm) : Prop where
  bl : Below w0.heap.size w0 W
  wy : Wy req T x k V.reverse
  ln : V.length + k ≤ T.length
  xc : ∃ h : k < T.length, W.heap[w0.heap.size]? = some (.cells #[.string (T[k]'h).1.1, .string (T[k]'h).1.2] 36 (0, 0))
  mp : ByAt W mb T
  row : W.ownsRow (w0.heap.size + 1) 36 2 yv V.length (flatM V)
theorem Wst.below {w0 W W' : World} {req : Bm → List Bm} {T : By} {x : Bm} {mb : Nat} {yv : Value} {k : Nat} {V : List Bm} (h : Wst w0 W req T x mb yv k V) (hb : Below W.heap.size W W') : Wst w0 W' req T x mb yv k V := by
  obtain ⟨hk, hc⟩ := h.xc
  exact ⟨h.bl.trans (hb.mono h.bl.size), h.wy, h.ln, ⟨hk, (hb.block _ (lt_of_blk hc)).trans hc⟩, h.mp.below hb, owns_below h.row hb⟩
/-- The box behind a store of a module. -/
def putM (W : World) (b : Nat) (m : Bm) : World := (W.setCell ⟨b, 0, none⟩ (.string m.1)).setCell ⟨b, 1, none⟩ (.string m.2)
theorem putM_block {W : World} {b : Nat} {c0 c1 : Value} {t : TypeId} (m : Bm) (h : W.heap[b]? = some (.cells #[c0, c1] t (0, 0))) : (putM W b m).heap[b]? = some (.cells #[.string m.1, .string m.2] t (0, 0)) := by
  unfold putM
  have h1 := set_block (o := 0) (x := .string m.1) h
  have h2 := set_block (o := 1) (x := .string m.2) h1
  simpa using h2
theorem putM_other {W : World} {b g : Nat} (m : Bm) (h : g ≠ b) : (putM W b m).heap[g]? = W.heap[g]? := by
  unfold putM
  rw [Below.heap_setCell _ _ _ _ h, Below.heap_setCell _ _ _ _ h]
theorem putM_size (W : World) (b : Nat) (m : Bm) : (putM W b m).heap.size = W.heap.size := by simp [putM, World.setCell]
theorem putM_owns {W : World} {b n : Nat} {e : TypeId} {v : Value} {xs : List Value} (m : Bm) (h : W.ownsRow (b + 1) e 2 v n xs) : (putM W b m).ownsRow (b + 1) e 2 v n xs := by
  have hne : v.ownBlock ≠ some b := fun hh => by have := (h.lt b hh).1; omega
  exact owns_set (owns_set h hne) hne
/-- One step back. -/
theorem Wst.more {w0 W w6 : World} {req : Bm → List Bm} {T : By} {x : Bm} {mb : Nat} {yv yv' : Value} {k : Nat} {V : List Bm} {o : Obj} (h : Wst w0 W req T x mb yv k V) (hk : k < T.length) {j : Nat} (hj : j < k) (e1 : (T[j]'(Nat.lt_trans hj hk)).1 = T[k].2) (e2 : T[k].1 ∈ req T[k].2)
    (hown : w6.ownsRow (w0.heap.size + 1) 36 2 yv' (V.length + 1) (flatM V ++ [.string T[k].2.1, .string T[k].2.2])) (hg : ((putM W w0.heap.size T[k].2).alloc o).grownBy w6 yv.ownBlock) :
    Wst w0 w6 req T x mb yv' j (V ++ [T[k].2]) := by
  obtain ⟨hk', hc⟩ := h.xc
  have hs := h.bl.size
  have l1 := lt_of_blk hc
  obtain ⟨es, clock, hm1⟩ := h.mp.block
  have l2 := lt_of_blk hm1
  have n1 : w0.heap.size ≠ mb := h.mp.ne hc
  have r1 : yv.ownBlock ≠ some w0.heap.size := fun hh => by have := (h.row.lt _ hh).1; omega
  have r2 : yv.ownBlock ≠ some mb := fun hh => by
    obtain ⟨hl, ⟨h1, _⟩ | ⟨g', cap, cur, q1, q2, q3, _⟩⟩ := h.row
    · rw [h1] at hh; cases hh
    · rw [q1] at hh
      have : g' = mb := by simpa [Value.ownBlock] using hh
      exact h.mp.ne q3 this
  have al := (Below.refl (putM W w0.heap.size T[k].2).heap.size (putM W w0.heap.size T[k].2)).alloc (Nat.le_refl _) o
  have keep : ∀ b, b < W.heap.size → yv.ownBlock ≠ some b → w6.heap[b]? = (putM W w0.heap.size T[k].2).heap[b]? := fun b hb hr => by
    rw [hg.block b (by simp [putM_size]; omega) (fun e => hr e.symm), al.block b (by rw [putM_size]; exact hb)]
  have b1 : Below w0.heap.size w0 (putM W w0.heap.size T[k].2) := (h.bl.setCell (p := ⟨w0.heap.size, 0, none⟩) (Nat.le_refl _) _).setCell (p := ⟨w0.heap.size, 1, none⟩) (Nat.le_refl _) _
  have b2 : Below w0.heap.size w0 w6 := (b1.alloc b1.size o).grown hg (by simp [putM_size]; omega) (fun q hq => by have := (h.row.lt q hq).1; omega)
  refine ⟨b2, ?_, ?_, ⟨Nat.lt_trans hj hk, ?_⟩, ?_, ?_⟩
  · rw [List.reverse_append, List.reverse_singleton, ← e1]
    exact Wy.next h.wy hk hj e1 e2
  · have := h.ln; simp; omega
  · rw [keep _ l1 r1, e1]; exact putM_block _ hc
  · exact (h.mp.heap (putM_other _ (Ne.symm n1))).heap (keep mb l2 r2)
  · rw [List.length_append, flatM_app]
    exact hown
theorem Wst.ok {w0 W : World} {Q : List Raw} {L : List Ent} {roots : List Bm} {T : By} {x : Bm} {mb : Nat} {yv : Value} {k : Nat} {V : List Bm} (h : Wst w0 W (reqQ Q L) T x mb yv k V) (hc : Came (reqQ Q L) (univ L) roots T) (hk : k < T.length) (e : T[k].1 = T[k].2) : WayOk (reqQ Q L) (univ L) roots x V.reverse := by
  refine ⟨fun y hy => by
    obtain ⟨p, hp, _, e⟩ := h.wy.far y hy
    exact hc.b.un y (whoT_mem.2 ⟨p, hp, e⟩), h.wy.pos, ?_, h.wy.last, h.wy.nd hc.b.nd, h.wy.chain, ?_⟩
  · rw [h.wy.head]
    rcases hc.b.by_ k hk with h1 | ⟨j, hj, h2, _⟩
    · exact h1.2
    · have := nd_get hc.b.nd (by omega) hk (h2.trans e.symm)
      omega
  · obtain ⟨G, hG⟩ := hc.l
    obtain ⟨t, ht, ht', hk', e1, e2⟩ := hG.way hc.b.nd h.wy
    have h1 : G[k] = 1 := by
      rcases hG.st k hk hk' with h1 | ⟨j, hj, h2, _⟩
      · exact h1.2
      · have := nd_get hc.b.nd (by omega) hk (h2.trans e.symm)
        omega
    have h2 := hG.dst hc.b.nd hc.r ht ht'
    rw [e1] at h2
    rw [show V.reverse.length = G[t] by omega]
    exact h2
end Ve
end Go.Proofs.YtjhiajeeijfkeaaGreatDoor

/-
  What small and reached of the statements answer: the closed fact holds.
-/
namespace Go.Proofs.YtjhiajeeijfkeaaGreatDoor
open Go.RowKit Go.Maps
namespace Ve

def ma0 : Bm := (⟨#[97]⟩, ⟨#[118, 49, 46, 48, 46, 48]⟩)
def ma1 : Bm := (⟨#[97]⟩, ⟨#[118, 49, 46, 49, 46, 48]⟩)
def mb0 : Bm := (⟨#[98]⟩, ⟨#[118, 48, 46, 49, 46, 48]⟩)
def smL : List Ent := [(ma0, [], [], false), (ma1, [mb0], [], false), (mb0, [], [], false)]
def smQ (g : Nat) : List Raw := [(ma0, .slice none 0 0, .slice none 0 0, false), (ma1, .slice (some ⟨g, 0, none⟩) 1 1, .slice none 0 0, false), (mb0, .slice none 0 0, .slice none 0 0, false)]
theorem pk_nilS : packErr (bl []) = 0 := pk_ok (by decide) rfl (by simp [risB, srtB, bl, Lib.compact, Lib.compactUpTo])
theorem sm_e0 : entE smL 0 = 0 := by
  show entW none _ = 0
  rw [entW_none (by kernel_rfl), entR_pack (by decide) (by kernel_rfl)]
  exact pk_nilS
theorem sm_e1 : entE smL 1 = 0 := by
  show entW (some _) _ = 0
  rw [entW_some (by kernel_rfl) (by kernel_rfl), entR_pack (by decide) (by kernel_rfl)]
  exact pk_nilS
theorem sm_e2 : entE smL 2 = 0 := by
  show entW (some _) _ = 0
  rw [entW_some (by kernel_rfl) (by kernel_rfl), entR_pack (by decide) (by kernel_rfl)]
  exact pk_nilS
theorem sm_chk (g : Nat) : chk (smQ g) smL = (0, none) := by
  have h2 : ∀ j, j < 3 → entE smL j = 0 := fun j hj => by
    rcases (by omega : j = 0 ∨ j = 1 ∨ j = 2) with rfl | rfl | rfl
    · exact sm_e0
    · exact sm_e1
    · exact sm_e2
  have h : fstE (entE smL) smL.length = none := fstE_none h2
  rw [chk_reqs (by decide) h]
  exact Prod.ext (show codeE (reqE2 (smQ g) smL) smL.length = 0 by kernel_rfl) (show fstE (reqE2 (smQ g) smL) smL.length = none by kernel_rfl)
theorem sm_chkG (g : Nat) : (chkG (smQ g) smL [ma1]).1 = 0 := by
  rw [chkG_ok (by rw [sm_chk])]
  show codeE (nonE (smQ g) [ma1]) 1 = 0
  kernel_rfl
theorem sm_r1 (g : Nat) : reqQ (smQ g) smL ma1 = [mb0] := by kernel_rfl
theorem sm_rb (g : Nat) : reqQ (smQ g) smL mb0 = [] := by kernel_rfl
theorem sm_rch {g : Nat} {m : Bm} (h : Rch (reqQ (smQ g) smL) [ma1] m) : m = ma1 ∨ m = mb0 := by
  induction h with
  | root hr => simp at hr; exact Or.inl hr
  | step _ hr ih =>
    rcases ih with rfl | rfl
    · rw [sm_r1] at hr; simp at hr; exact Or.inr hr
    · rw [sm_rb] at hr; simp at hr
theorem sm_go {g : Nat} {T : By} (h : Came (reqQ (smQ g) smL) (univ smL) [ma1] T) : goM T (smQ g) = [ma1, mb0] := by
  have c1 : cameB T ma1 = true := (h.cameB _).2 (.root (by simp))
  have cb : cameB T mb0 = true := (h.cameB _).2 (.step (.root (List.mem_singleton.2 rfl)) (by rw [sm_r1]; simp))
  have c0 : cameB T ma0 = false := by
    cases hc : cameB T ma0 with
    | false => rfl
    | true =>
      rcases sm_rch ((h.cameB _).1 hc) with e | e
      · exact absurd (congrArg (fun m : Bm => m.2.data) e) (by decide)
      · exact absurd (congrArg (fun m : Bm => m.1.data) e) (by decide)
  unfold goM goQ smQ
  simp [c0, c1, cb]
theorem sm_ixs {W : World} {g q : Nat} (hb : W.heap[q]? = some (.cells #[.string ⟨#[97]⟩, .string ⟨#[118, 49, 46, 48, 46, 48]⟩, .slice none 0 0, .slice none 0 0, .bool false, .string ⟨#[97]⟩, .string ⟨#[118, 49, 46, 49, 46, 48]⟩, .slice (some ⟨g, 0, none⟩) 1 1, .slice none 0 0, .bool false, .string ⟨#[98]⟩, .string ⟨#[118, 48, 46, 49, 46, 48]⟩, .slice none 0 0, .slice none 0 0, .bool false] 55 (0, 0)))
    (hg : W.heap[g]? = some (.cells #[.string ⟨#[98]⟩, .string ⟨#[118, 48, 46, 49, 46, 48]⟩] 36 (0, 0))) :
    Ixs W (.slice (some ⟨q, 0, none⟩) 3 3) (smQ g) smL := by
  have msn : MsAt W (.slice none 0 0) [] := ⟨none, 0, rfl, Nat.le_refl _, fun h => absurd rfl h⟩
  have txn : TxAt W (.slice none 0 0) [] := ⟨none, 0, rfl, Nat.le_refl _, fun h => absurd rfl h⟩
  have msb : MsAt W (.slice (some ⟨g, 0, none⟩) 1 1) [mb0] := ⟨some ⟨g, 0, none⟩, 1, rfl, Nat.le_refl _, fun _ => ⟨g, 0, rfl, fun j hj => by
    have : j = 0 := by simp at hj; exact hj
    subst this
    refine ⟨?_, ?_⟩ <;> (rw [Lib.cell_of_heap hg]; rfl)⟩⟩
  refine ⟨⟨some ⟨q, 0, none⟩, 3, rfl, Nat.le_refl _, fun r hr => ?_, fun _ => ⟨q, 0, rfl, fun j hj => ?_⟩⟩, rfl, fun j h1 h2 => ?_⟩
  · have : r = (ma0, .slice none 0 0, .slice none 0 0, false) ∨ r = (ma1, .slice (some ⟨g, 0, none⟩) 1 1, .slice none 0 0, false) ∨ r = (mb0, .slice none 0 0, .slice none 0 0, false) := by simpa [smQ] using hr
    rcases this with rfl | rfl | rfl
    · exact ⟨⟨none, 0, 0, rfl⟩, none, 0, 0, rfl⟩
    · exact ⟨⟨_, _, _, rfl⟩, none, 0, 0, rfl⟩
    · exact ⟨⟨none, 0, 0, rfl⟩, none, 0, 0, rfl⟩
  · have hj2 : j < 3 := hj
    rcases (by omega : j = 0 ∨ j = 1 ∨ j = 2) with rfl | rfl | rfl
    · refine ⟨?_, ?_, ?_, ?_, ?_⟩ <;> (rw [Lib.cell_of_heap hb]; rfl)
    · refine ⟨?_, ?_, ?_, ?_, ?_⟩ <;> (rw [Lib.cell_of_heap hb]; rfl)
    · refine ⟨?_, ?_, ?_, ?_, ?_⟩ <;> (rw [Lib.cell_of_heap hb]; rfl)
  · have hj2 : j < 3 := h1
    rcases (by omega : j = 0 ∨ j = 1 ∨ j = 2) with rfl | rfl | rfl
    · exact ⟨rfl, msn, txn, rfl⟩
    · exact ⟨rfl, msb, txn, rfl⟩
    · exact ⟨rfl, msn, txn, rfl⟩
theorem sm_sh : ∀ e, e ∈ smL → ShE e := fun e he => by
  have : e = smL[0] ∨ e = smL[1] ∨ e = smL[2] := by simpa [smL] using he
  rcases this with rfl | rfl | rfl
  · exact ⟨by decide, by decide, by decide, fun m hm => (by cases hm), by decide, fun x hx => (by cases hx)⟩
  · exact ⟨by decide, by decide, by decide, fun m hm => (by have : m = mb0 := List.mem_singleton.1 hm
                                                            subst this; exact ⟨by decide, by decide⟩), by decide, fun x hx => (by cases hx)⟩
  · exact ⟨by decide, by decide, by decide, fun m hm => (by cases hm), by decide, fun x hx => (by cases hx)⟩
set_option maxHeartbeats 2000000 in
/-- pewholderlaw2.small. -/
theorem smallI_any (w : World) : Calls Tryz.prog 24 #[] w fun e w' => ∃ g q, e = .returned (.slice (some ⟨q, 0, none⟩) 3 3) ∧ Ixs w' (.slice (some ⟨q, 0, none⟩) 3 3) (smQ g) smL ∧ Below w.heap.size w w' := by
  go_enter Tryz.func24, Tryz.ntmps24
  go_wp2_with fail
  go_ret
  refine ⟨w.heap.size, w.heap.size + 1, rfl, ?_, ((Below.refl w.heap.size w).alloc (Nat.le_refl _) _).alloc (by simp) _⟩
  have h2 := heap_alloc_new (w.alloc (.cells #[.string ⟨#[98]⟩, .string ⟨#[118, 48, 46, 49, 46, 48]⟩] 36)) (.cells #[.string ⟨#[97]⟩, .string ⟨#[118, 49, 46, 48, 46, 48]⟩, .slice none 0 0, .slice none 0 0, .bool false, .string ⟨#[97]⟩, .string ⟨#[118, 49, 46, 49, 46, 48]⟩, .slice (some ⟨w.heap.size, 0, none⟩) 1 1, .slice none 0 0, .bool false, .string ⟨#[98]⟩, .string ⟨#[118, 48, 46, 49, 46, 48]⟩, .slice none 0 0, .slice none 0 0, .bool false] 55)
  rw [show (w.alloc (.cells #[.string ⟨#[98]⟩, .string ⟨#[118, 48, 46, 49, 46, 48]⟩] 36)).heap.size = w.heap.size + 1 by simp] at h2
  exact sm_ixs h2 (heap_old _ _ (heap_new w _))
end Ve
end Go.Proofs.YtjhiajeeijfkeaaGreatDoor

/-
  What LongMods of the statements answers, whatever its bound.
-/
namespace Go.Proofs.YtjhiajeeijfkeaaGreatDoor
open Go.RowKit
namespace Ve

def okLN (N : Nat) (L : List Bm) : Bool := decide (L.length ≤ N) && L.all okM
theorem okLN_iff {N : Nat} {L : List Bm} (h : okLN N L = true) : L.length ≤ N ∧ ∀ m, m ∈ L → m.1.size ≤ 70 ∧ m.2.size ≤ 60 := by
  unfold okLN at h
  rw [Bool.and_eq_true] at h
  refine ⟨of_decide_eq_true h.1, fun m hm => ?_⟩
  have := List.all_eq_true.1 h.2 m hm
  unfold okM at this
  rw [Bool.and_eq_true] at this
  exact ⟨of_decide_eq_true this.1, of_decide_eq_true this.2⟩
set_option maxHeartbeats 1000000 in
theorem longN_some (N : Nat) (hN : N ≤ 1000) (L : List Bm) (b o c : Nat) (w : World) (hn : L.length ≤ N)
    (hc : ∀ j (h : j < L.length), w.cell? ⟨b, o + j * 2, none⟩ = some (.string L[j].1) ∧ w.cell? ⟨b, o + j * 2 + 1, none⟩ = some (.string L[j].2)) :
    Calls Tryz.prog 8 #[.slice (some ⟨b, o, none⟩) L.length c, .int .i64 (N : Int)] w fun e w' => e = .returned (.int .i64 (if okLN N L then 0 else 1)) ∧ w' = w := by
  have HC := hid hc
  have HO := hid (show okLN N L = L.all okM by unfold okLN; rw [decide_eq_true hn, Bool.true_and])
  have hn2 : ¬ (N : Int) < (L.length : Int) := by omega
  generalize hr : (if okLN N L then (0 : Int) else 1) = r
  have HR := hid hr
  clear hc hr
  go_enter Tryz.func8, Tryz.ntmps8
  go_wp2_with fail
  go_loop [5] (fun i => ∃ k : Nat, k ≤ L.length ∧ i = .int .i64 k ∧ Hid ((L.take k).all okM = true)) (fun i => L.length - (intOf i).toNat)
  case atStart => exact ⟨0, Nat.zero_le _, rfl, hid rfl⟩
  case round =>
    obtain ⟨k, hk, rfl, HA⟩ := hrel
    by_cases hlt : k < L.length
    · have hx := (HC.out k hlt).1
      have hy := (HC.out k hlt).2
      have HN := hid (fun h => all_take_next hlt HA.out h)
      have HX := hid (fun h => all_not hlt h)
      have HLT := hid hlt
      have hkI : (k : Int) < (L.length : Int) := by omega
      generalize L[k] = x at *
      clear hlt
      obtain ⟨p, v⟩ := x
      by_cases h1 : p.size ≤ 70
      · have h1' : ¬ (70 : Int) < (p.size : Int) := by omega
        by_cases h2 : v.size ≤ 60
        · have h2' : ¬ (60 : Int) < (v.size : Int) := by omega
          have HT := hid (HN.out (by unfold okM; rw [decide_eq_true h1, decide_eq_true h2]; rfl))
          go_wp2_with fail
          go_round
          case rel => exact ⟨k + 1, by have := HLT.out; omega, by go_num, HT⟩
          case measure => have := HLT.out; simp [intOf]; omega
        · have h2' : (60 : Int) < (v.size : Int) := by omega
          have HT := hid (HX.out (by unfold okM; rw [decide_eq_true h1, decide_eq_false h2]; rfl))
          go_wp2_with fail
          go_ret
          exact ⟨by rw [← HR.out, HO.out, HT.out]; rfl, rfl⟩
      · have h1' : (70 : Int) < (p.size : Int) := by omega
        have HT := hid (HX.out (by unfold okM; rw [decide_eq_false h1]; rfl))
        go_wp2_with fail
        go_ret
        exact ⟨by rw [← HR.out, HO.out, HT.out]; rfl, rfl⟩
    · have HT := hid (show L.all okM = true by have := HA.out; rw [List.take_of_length_le (by omega)] at this; exact this)
      go_wp2_with fail
      go_ret
      exact ⟨by rw [← HR.out, HO.out, HT.out]; rfl, rfl⟩
theorem longN_none (N : Nat) (a : Option Addr) (c : Nat) (w : World) : Calls Tryz.prog 8 #[.slice a 0 c, .int .i64 (N : Int)] w fun e w' => e = .returned (.int .i64 0) ∧ w' = w := by
  go_enter Tryz.func8, Tryz.ntmps8
  go_wp2_with fail
  go_loop [5] (fun i => i = .int .i64 0) (fun i => 0)
  case atStart => exact rfl
  case round =>
    obtain rfl := hrel
    go_wp2_with fail
    go_ret
    exact ⟨rfl, rfl⟩
theorem longN_many (N : Nat) (a : Option Addr) (n c : Nat) (w : World) (hn : N < n) : Calls Tryz.prog 8 #[.slice a n c, .int .i64 (N : Int)] w fun e w' => e = .returned (.int .i64 1) ∧ w' = w := by
  have hn2 : (N : Int) < (n : Int) := by omega
  go_enter Tryz.func8, Tryz.ntmps8
  go_wp2_with fail
  go_ret
  exact ⟨rfl, rfl⟩
theorem longN_any (N : Nat) (hN : N ≤ 1000) (L : List Bm) (v : Value) (w : World) (hv : MsAt w v L) : Calls Tryz.prog 8 #[v, .int .i64 (N : Int)] w fun e w' => e = .returned (.int .i64 (if okLN N L then 0 else 1)) ∧ w' = w := by
  obtain ⟨a, c, rfl, _, h⟩ := hv
  by_cases hn : L.length ≤ N
  · cases L with
    | nil => exact longN_none N a c w
    | cons x r =>
      obtain ⟨b, o, rfl, h2⟩ := h (by simp)
      exact longN_some N hN (x :: r) b o c w hn h2
  · have : okLN N L = false := by unfold okLN; rw [decide_eq_false hn]; rfl
    rw [this]
    exact longN_many N a L.length c w (by omega)

end Ve
end Go.Proofs.YtjhiajeeijfkeaaGreatDoor

/-
  What FindOf of the document's answer says; whether a module is in a row.
-/
namespace Go.Proofs.YtjhiajeeijfkeaaGreatDoor
open Go.RowKit Go.Maps
namespace Ve

def eqM (x m : Bm) : Bool := decide (x.1 = m.1 ∧ x.2 = m.2)
theorem eqM_iff {x m : Bm} : eqM x m = true ↔ x = m := by
  unfold eqM
  rw [decide_eq_true_iff]
  exact ⟨fun h => Prod.ext h.1 h.2, fun h => by rw [h]; exact ⟨rfl, rfl⟩⟩
theorem eqM_ne {x m : Bm} (h : x ≠ m) : eqM x m = false := by
  cases e : eqM x m with
  | false => rfl
  | true => exact absurd (eqM_iff.1 e) h
theorem eqM_run (x m : Bm) (W : World) : (binOp .eql 36 (.agg #[.string x.1, .string x.2]) (.agg #[.string m.1, .string m.2])).run Tryz.prog W = .ok (.bool (eqM x m)) W := modEql x.1 x.2 m.1 m.2 W
theorem neM_run (x m : Bm) (W : World) : (binOp .neq 36 (.agg #[.string x.1, .string x.2]) (.agg #[.string m.1, .string m.2])).run Tryz.prog W = .ok (.bool (!eqM x m)) W := modNeq x.1 x.2 m.1 m.2 W
/-- Is a module in a row? -/
def hasM (X : List Bm) (m : Bm) : Bool := X.any fun y => eqM y m
theorem hasM_iff {X : List Bm} {m : Bm} : hasM X m = true ↔ m ∈ X := by
  unfold hasM
  rw [List.any_eq_true]
  constructor
  · rintro ⟨y, hy, h⟩; rw [← eqM_iff.1 h]; exact hy
  · intro h; exact ⟨m, h, eqM_iff.2 rfl⟩
theorem hasM_next {X : List Bm} {k : Nat} (hk : k < X.length) (m : Bm) : hasM (X.take (k + 1)) m = (hasM (X.take k) m || eqM X[k] m) := by
  unfold hasM
  rw [List.take_succ_eq_append_getElem hk, List.any_append]
  simp
theorem hasM_nil (X : List Bm) (m : Bm) : hasM (X.take 0) m = false := by simp [hasM]
theorem hasM_all {X : List Bm} {k : Nat} (hk : ¬ k < X.length) (m : Bm) : hasM (X.take k) m = hasM X m := by rw [List.take_of_length_le (by omega)]
theorem idx_same {Q Q' : List Raw} (hl : Q.length = Q'.length) (h : ∀ j (h : j < Q.length) (h' : j < Q'.length), Q[j].1 = Q'[j].1) (m : Bm) : idxOf (isM m) Q = idxOf (isM m) Q' := by
  have e : ∀ j, idxE (isM m) Q j = idxE (isM m) Q' j := fun j => by
    unfold idxE
    by_cases hj : j < Q.length
    · have hj' : j < Q'.length := by omega
      rw [List.getElem?_eq_getElem hj, List.getElem?_eq_getElem hj']
      have : isM m Q[j] = isM m Q'[j] := by
        have := h j hj hj'
        unfold isM
        rw [this]
      simp only [this]
    · rw [List.getElem?_eq_none (by omega), List.getElem?_eq_none (by omega)]
  unfold idxOf
  rw [show idxE (isM m) Q = idxE (isM m) Q' from funext e, hl]
theorem ixs_same {w w' : World} {v v' : Value} {Q Q' : List Raw} {L : List Ent} (I : Ixs w v Q L) (I' : Ixs w' v' Q' L) (m : Bm) : idxOf (isM m) Q = idxOf (isM m) Q' :=
  idx_same (by rw [I.ln, I'.ln]) (fun j h h' => by
    have hj : j < L.length := by rw [← I.ln]; exact h
    rw [(I.ok j h hj).m, (I'.ok j h' hj).m]) m
set_option maxRecDepth 100000 in
set_option maxHeartbeats 1000000 in
theorem findOf_some (L : List Raw) (m : Bm) (b o c : Nat) (w : World) (hL : L.length ≤ 1000000)
    (hc : ∀ j (h : j < L.length), w.cell? ⟨b, o + j * 5, none⟩ = some (.string L[j].1.1) ∧ w.cell? ⟨b, o + j * 5 + 1, none⟩ = some (.string L[j].1.2)) :
    Calls Tryz.prog 23 #[.slice (some ⟨b, o, none⟩) L.length c, .agg #[.string m.1, .string m.2]] w fun e w' => e = .returned (.int .i64 (idxOf (isM m) L)) ∧ Below w.heap.size w w' := by
  have HC := hid hc
  have hgd := modGuard
  generalize hr : idxOf (isM m) L = r
  have HR := hid hr
  have HB0 := hid ((Below.refl w.heap.size w).alloc (Nat.le_refl _) (.cells #[.string m.1, .string m.2] 36))
  have HE0 := hid (heap_new w (.cells #[.string m.1, .string m.2] 36))
  clear hc hr
  go_enter Tryz.func23, Tryz.ntmps23
  go_wp2_with fail
  generalize hw1 : w.alloc (.cells #[.string m.1, .string m.2] 36) = w1 at *
  clear hw1
  go_loopw [5] (fun i wr => ∃ k : Nat, k ≤ L.length ∧ i = .int .i64 k ∧ Hid (∀ j (h : j < L.length), j < k → isM m L[j] = false) ∧ Hid (Below w1.heap.size w1 wr)) (fun i _ => L.length - (intOf i).toNat)
  case atStart => exact ⟨0, Nat.zero_le _, rfl, hid (fun j _ hj => absurd hj (by omega)), hid (Below.refl _ _)⟩
  case round =>
    obtain ⟨k, hk, rfl, HA, HB⟩ := hrel
    have HBw := hid (HB0.out.trans (HB.out.mono HB0.out.size))
    by_cases hlt : k < L.length
    · have x0 := cell_below HBw.out (HC.out k hlt).1
      have x1 := cell_below HBw.out (HC.out k hlt).2
      have hE : wr.heap[w.heap.size]? = some (.cells #[.string m.1, .string m.2] 36 (0, 0)) := (HB.out.block _ (lt_of_blk HE0.out)).trans HE0.out
      have y0 : wr.cell? ⟨w.heap.size, 0, none⟩ = some (.string m.1) := by rw [Lib.cell_of_heap hE]; rfl
      have y1 : wr.cell? ⟨w.heap.size, 1, none⟩ = some (.string m.2) := by rw [Lib.cell_of_heap hE]; rfl
      have HF := hid (fun h => idx_hit hlt HA.out h)
      have HN := hid (fun h => idx_next hlt HA.out h)
      have HEQ := hid (show isM m L[k] = eqM L[k].1 m from rfl)
      have hkI : (k : Int) < (L.length : Int) := by omega
      have HLT := hid hlt
      clear hE
      generalize L[k] = x at *
      clear hlt
      have heq := fun W => eqM_run x.1 m W
      cases he : eqM x.1 m with
      | false =>
        rw [he] at heq HEQ
        have HN2 := hid (HN.out HEQ.out)
        clear HF HN HEQ he
        go_wp2_with fail
        go_quiet (fail)
        go_wp2_with fail
        go_roundw
        case rel => first | exact ⟨k + 1, HLT.out, nr_idx k, HN2, hid (below_drawn_of HB.out _)⟩ | exact ⟨k + 1, HLT.out, nx_idx HLT.out hL, HN2, hid (below_drawn_of HB.out _)⟩
        case measure => first | exact nr_meas HLT.out | exact nx_meas HLT.out hL
      | true =>
        rw [he] at heq HEQ
        have HF2 := hid (HF.out HEQ.out)
        clear HF HN HEQ he
        go_wp2_with fail
        go_quiet (fail)
        go_wp2_with fail
        go_ret
        exact ⟨by rw [← HR.out, HF2.out]; rfl, below_drawn_of HBw.out _⟩
    · have HF := hid (show idxOf (isM m) L = -1 by unfold idxOf; rw [fstE_none (idxE_zero (Nat.le_refl _) (fun j hj _ => HA.out j hj (by omega)))])
      have hkI : ¬ (k : Int) < (L.length : Int) := by omega
      clear hlt
      go_wp2_with fail
      go_ret
      exact ⟨by rw [← HR.out, HF.out]; rfl, HBw.out⟩
/-- pewholderref1.FindOf, where there are entries. -/
theorem findOf_any (L : List Raw) (m : Bm) (v : Value) (w : World) (hL : L.length ≤ 1000000) (h0 : 0 < L.length) (hv : EsAt w v L) :
    Calls Tryz.prog 23 #[v, .agg #[.string m.1, .string m.2]] w fun e w' => e = .returned (.int .i64 (idxOf (isM m) L)) ∧ Below w.heap.size w w' := by
  obtain ⟨a, c, rfl, _, _, h⟩ := hv
  obtain ⟨b, o, rfl, h2⟩ := h (fun e => by rw [e] at h0; exact absurd h0 (Nat.lt_irrefl _))
  exact findOf_some L m b o c w hL (fun j hj => ⟨(h2 j hj).1, (h2 j hj).2.1⟩)
end Ve
end Go.Proofs.YtjhiajeeijfkeaaGreatDoor

/-
  What is reached, in the order of an index; plain.
-/
namespace Go.Proofs.YtjhiajeeijfkeaaGreatDoor
open Go.RowKit Go.Maps
namespace Ve

theorem goM_mem {w : World} {v : Value} {Q : List Raw} {L : List Ent} {roots : List Bm} {T : By} (I : Ixs w v Q L) (h : Came (reqQ Q L) (univ L) roots T) {m : Bm} : m ∈ goM T Q ↔ Rch (reqQ Q L) roots m := by
  constructor
  · intro hm
    obtain ⟨r, hr, rfl⟩ := List.mem_map.1 hm
    exact (h.cameB _).1 (List.mem_filter.1 hr).2
  · intro hm
    have hc := (h.cameB m).2 hm
    have hu := h.b.un m (cameB_iff.1 hc)
    obtain ⟨e, he, rfl⟩ := List.mem_map.1 hu
    obtain ⟨j, hj, rfl⟩ := List.getElem_of_mem he
    have hjq : j < Q.length := by rw [I.ln]; exact hj
    have hm1 := (I.ok j hjq hj).m
    refine List.mem_map.2 ⟨Q[j], List.mem_filter.2 ⟨List.getElem_mem hjq, ?_⟩, hm1⟩
    show cameB T Q[j].1 = true
    rw [hm1]
    exact hc
theorem goM_univ {w : World} {v : Value} {Q : List Raw} {L : List Ent} {T : By} (I : Ixs w v Q L) {m : Bm} (h : m ∈ goM T Q) : m ∈ univ L := by
  obtain ⟨r, hr, rfl⟩ := List.mem_map.1 h
  obtain ⟨j, hj, rfl⟩ := List.getElem_of_mem (List.mem_filter.1 hr).1
  obtain ⟨hj', e⟩ := ixs_get I hj
  exact List.mem_map.2 ⟨L[j], List.getElem_mem hj', e.symm⟩
theorem goM_same {Q : List Raw} {T T' : By} (h : ∀ m, cameB T m = cameB T' m) : goM T Q = goM T' Q := by
  unfold goM goQ
  rw [show (fun r : Raw => cameB T r.1) = fun r => cameB T' r.1 from funext fun r => h r.1]
theorem goM_len (T : By) (Q : List Raw) : (goM T Q).length ≤ Q.length := by
  unfold goM goQ
  rw [List.length_map]
  exact List.length_filter_le _ _
theorem chkG_in {w : World} {v : Value} {Q : List Raw} {L : List Ent} {R : List Bm} (I : Ixs w v Q L) (hc : (chk Q L).1 = 0) (h : ∀ m, m ∈ R → m ∈ univ L) : (chkG Q L R).1 = 0 := by
  rw [chkG_ok hc]
  have : fstE (nonE Q R) R.length = none := fstE_none fun j hj => by
    rw [nonE_at hj]
    unfold nonW
    obtain ⟨k, hk⟩ := (found_iff I R[j]).1 (h _ (List.getElem_mem hj))
    rw [hk, if_neg (by omega)]
  exact codeE_none this
/-- Of what is reached the same is reached. -/
theorem goM_again {w : World} {v : Value} {Q : List Raw} {L : List Ent} {roots : List Bm} {T T' : By} (I : Ixs w v Q L) (h : Came (reqQ Q L) (univ L) roots T) (h' : Came (reqQ Q L) (univ L) (goM T Q) T') : goM T' Q = goM T Q :=
  goM_same fun m => by
    have e : cameB T' m = true ↔ cameB T m = true := by
      rw [h'.cameB, h.cameB]
      exact Rch.again (fun m => goM_mem I h)
    cases h1 : cameB T' m with
    | true => exact (e.1 h1).symm
    | false =>
      cases h2 : cameB T m with
      | true => rw [e.2 h2] at h1; cases h1
      | false => rfl
end Ve
end Go.Proofs.YtjhiajeeijfkeaaGreatDoor

/-
  Modules appended to an own row; the document's IsAhead; what is reached rises.
-/
namespace Go.Proofs.YtjhiajeeijfkeaaGreatDoor
open Go.RowKit Go.Maps
namespace Ve

/-- A row of modules, appended to an own one. -/
theorem both_run (X Y : List Bm) (dv sv : Value) (W : World) (B : Nat) (hB : B ≤ W.heap.size) (hX : X.length ≤ 1000) (hY : Y.length ≤ 1000) (ho : W.ownsRow B 36 2 dv X.length (flatM X)) (h : MsAt W sv Y) (he : Em sv Y) :
    ∃ v' W', (Builtin.append_ #[23, 23] 23 #[dv, sv]).run Tryz.prog W = .ok v' W' ∧ W'.ownsRow B 36 2 v' (X ++ Y).length (flatM (X ++ Y)) ∧ W.grownBy W' dv.ownBlock := by
  obtain ⟨i0, hi, hz0, hz1, hz2⟩ := info_parts infoMod
  obtain ⟨a, c, rfl, hc, h2⟩ := h
  have some_case : ∀ a', (∀ j u, (flatM Y)[j]? = some u → W.cell? (a'.add j) = some u) → ∃ v' W', (Builtin.append_ #[23, 23] 23 #[dv, .slice (some a') Y.length c]).run Tryz.prog W = .ok v' W' ∧ W'.ownsRow B 36 2 v' (X ++ Y).length (flatM (X ++ Y)) ∧ W.grownBy W' dv.ownBlock := fun a' hcell => by
    obtain ⟨v', W', h3, h4, h5, _⟩ := run_append_own (P := Tryz.prog) W B 23 23 36 i0 _ 2 32 Tryz.underlying23 hi hz0 hz1 hz2 rfl (by decide) dv X.length (flatM X) ho a' Y.length c (flatM Y) (flatM_len Y) hcell (flat_one Y) (by unfold maxLen; omega) (by omega) hB
    exact ⟨v', W', h3, by rw [List.length_append, flatM_app]; exact h4, h5⟩
  cases Y with
  | nil =>
    rcases he a c rfl rfl with hz | ⟨a', hz⟩
    · refine ⟨dv, W, ?_, by simpa using ho, ⟨rfl, rfl, rfl, Nat.le_refl _, fun _ _ _ => rfl⟩⟩
      show (Builtin.append_ #[23, 23] 23 #[dv, .slice a 0 c]).run Tryz.prog W = _
      rw [hz]
      exact run_append_owned_none (P := Tryz.prog) (w := W) B 23 23 36 i0 2 Tryz.underlying23 hi dv X.length (flatM X) ho
    · have hz' : (Value.slice a ([] : List Bm).length c) = .slice (some a') ([] : List Bm).length c := hz
      rw [hz']
      exact some_case a' (fun j u hj => by simp [flatM] at hj)
  | cons x r =>
    obtain ⟨b, o, rfl, hcell⟩ := h2 (by simp)
    exact some_case ⟨b, o, none⟩ (fun j u hj => by rw [Addr.add_lit]; exact ms_flat hcell j u hj)
set_option maxHeartbeats 1000000 in
/-- pewholderref1.IsAhead. -/
theorem isA_any (a b : Bm) (w : World) (hv : a.2.size < 999999) (hu : b.2.size < 999999) :
    Calls Tryz.prog 113 #[.agg #[.string a.1, .string a.2], .agg #[.string b.1, .string b.2]] w fun e w' => e = .returned (.bool (mAhead a b)) ∧ Below w.heap.size w w' := by
  obtain ⟨p, v⟩ := a
  obtain ⟨q, u⟩ := b
  have HO := hid (show mAhead (p, v) (q, u) = if p.data.toList = q.data.toList then lessB v.data.toList u.data.toList else decide (Lib.compareBytes p.data.toList q.data.toList < 0) from rfl)
  have HB0 := hid (((Below.refl w.heap.size w).alloc (Nat.le_refl _) (.cells #[.string p, .string v] 36)).alloc (by simp) (.cells #[.string q, .string u] 36))
  simp only at hv hu
  by_cases h : p = q
  · subst h
    rw [if_pos rfl] at HO
    have he := str_refl p
    have HL := hid (fun W => isLess_any v u W hv hu)
    go_enter Tryz.func113, Tryz.ntmps113
    go_wp2_with fail
    refine (HL.out _).mono ?_
    rintro e w1 ⟨rfl, hb⟩
    have HB := hid (HB0.out.trans (hb.mono HB0.out.size))
    clear hb
    go_wp2_with fail
    go_ret
    exact ⟨ret_bool HO.out.symm, HB.out⟩
  · rw [if_neg (fun e => h (str_ext e))] at HO
    have he := str_ne h
    have HC := hid (show Op.bytesLess p.toList q.toList = decide (Lib.compareBytes p.data.toList q.data.toList < 0) by rw [cb_less, ByteArray.toList_eq, ByteArray.toList_eq])
    clear h
    go_enter Tryz.func113, Tryz.ntmps113
    go_wp2_with fail
    go_ret
    exact ⟨ret_bool (by rw [HO.out, ← HC.out]), HB0.out⟩
theorem univ_eq {w : World} {v : Value} {Q : List Raw} {L : List Ent} (I : Ixs w v Q L) : Q.map (fun r => r.1) = univ L := by
  apply List.ext_getElem
  · simp [univ, I.ln]
  · intro j h1 h2
    have hq : j < Q.length := by simpa using h1
    have hl : j < L.length := by rw [← I.ln]; exact hq
    simp only [univ, List.getElem_map]
    exact (I.ok j hq hl).m
theorem univ_rises {Q : List Raw} {L : List Ent} (h : (chk Q L).1 = 0) : (univ L).Pairwise fun a b => mAhead a b = true := by
  rw [List.pairwise_iff_getElem]
  intro i j hi hj hij
  have hi2 : i < L.length := by simpa [univ] using hi
  have hj2 : j < L.length := by simpa [univ] using hj
  obtain ⟨d, rfl⟩ : ∃ d, j = i + d + 1 := ⟨j - i - 1, by omega⟩
  have := ahead_all (chk_each0 h).2 d i hj2
  simpa [univ] using this
theorem goM_rises {w : World} {v : Value} {Q : List Raw} {L : List Ent} {T : By} (I : Ixs w v Q L) (h : (chk Q L).1 = 0) : (goM T Q).Pairwise fun a b => mAhead a b = true := by
  have h1 := univ_rises h
  rw [← univ_eq I] at h1
  have h2 : (goM T Q).Sublist (Q.map fun r => r.1) := by
    unfold goM goQ
    exact List.Sublist.map _ List.filter_sublist
  exact h1.sublist h2
/-- What two lists of roots reach together is what each of them reaches. -/
theorem came_app {req : Bm → List Bm} {U a b : List Bm} {Ta Tb Tc : By} (ha : Came req U a Ta) (hb : Came req U b Tb) (hc : Came req U (a ++ b) Tc) (m : Bm) : cameB Tc m = (cameB Ta m || cameB Tb m) := by
  rw [Bool.eq_iff_iff, Bool.or_eq_true, hc.cameB, ha.cameB, hb.cameB]
  exact Rch.app
theorem goM_has {w : World} {v : Value} {Q : List Raw} {L : List Ent} {T : By} (I : Ixs w v Q L) {m : Bm} (hm : m ∈ univ L) : hasM (goM T Q) m = cameB T m := by
  rw [Bool.eq_iff_iff, hasM_iff]
  constructor
  · intro h
    obtain ⟨r, hr, rfl⟩ := List.mem_map.1 h
    exact (List.mem_filter.1 hr).2
  · intro h
    obtain ⟨e, he, rfl⟩ := List.mem_map.1 hm
    obtain ⟨j, hj, rfl⟩ := List.getElem_of_mem he
    have hjq : j < Q.length := by rw [I.ln]; exact hj
    have hm1 := (I.ok j hjq hj).m
    refine List.mem_map.2 ⟨Q[j], List.mem_filter.2 ⟨List.getElem_mem hjq, ?_⟩, hm1⟩
    show cameB T Q[j].1 = true
    rw [hm1]
    exact h
end Ve
end Go.Proofs.YtjhiajeeijfkeaaGreatDoor

/-
  What the document's answer says of an entry (entryError).
-/
namespace Go.Proofs.YtjhiajeeijfkeaaGreatDoor
open Go.RowKit Go.Maps
namespace Ve

theorem es_all {W : World} {b o n c : Nat} {Q : List Raw} (h : EsAt W (.slice (some ⟨b, o, none⟩) n c) Q) {k : Nat} (hk : k < Q.length) : slR Q[k] ∧ W.cell? ⟨b, o + k * 5, none⟩ = some (.string Q[k].1.1) ∧ W.cell? ⟨b, o + k * 5 + 1, none⟩ = some (.string Q[k].1.2) ∧ W.cell? ⟨b, o + k * 5 + 2, none⟩ = some Q[k].2.1 ∧ W.cell? ⟨b, o + k * 5 + 3, none⟩ = some Q[k].2.2.1 ∧ W.cell? ⟨b, o + k * 5 + 4, none⟩ = some (.bool Q[k].2.2.2) := by
  obtain ⟨a', c', e, _, hs, h⟩ := h
  injection e with e1 e2 e3
  subst e1
  obtain ⟨b', o', e4, h4⟩ := h (by intro h0; rw [h0] at hk; simp at hk)
  injection e4 with e4
  injection e4 with e5 e6
  subst e5 e6
  exact ⟨hs _ (List.getElem_mem hk), h4 k hk⟩
theorem reqsR_code (own : ByteArray) (L : List Bm) : (reqsR own L).1 = codeE (reqE own L) L.length := by
  unfold reqsR codeE
  cases fstE (reqE own L) L.length <;> rfl
theorem pk_rise {Z : List (List UInt8)} (h : ¬ 10 < Z.length) (h1 : Z.any noPk = false) (h2 : rsT Z) : packErr Z = 0 := pk_ok h h1 ((ris_iff Z).2 h2)
theorem pk_fall {Z : List (List UInt8)} (h : ¬ 10 < Z.length) (h1 : Z.any noPk = false) (h2 : ¬ rsT Z) : packErr Z = 8 := pk_order h h1 (fun e => h2 ((ris_iff Z).1 e))
theorem any_noPk {X : List ByteArray} (h : ∀ j (h : j < X.length), noPk X[j].data.toList = false) : (bl X).any noPk = false := by
  cases e : (bl X).any noPk
  · rfl
  · obtain ⟨z, hz, h1⟩ := List.any_eq_true.1 e
    obtain ⟨j, hj, rfl⟩ := List.getElem_of_mem hz
    have hj2 : j < X.length := by rw [bl_len] at hj; exact hj
    have := h j hj2
    have e2 : (bl X)[j] = X[j].data.toList := by simp [bl]
    rw [e2, this] at h1; cases h1
theorem any_noPk' {X : List ByteArray} {j : Nat} (hj : j < X.length) (h : noPk X[j].data.toList = true) : (bl X).any noPk = true :=
  List.any_eq_true.2 ⟨X[j].data.toList, bl_mem (List.getElem_mem hj), h⟩
theorem rsT_of {X : List ByteArray} (h : ∀ j (h : j + 1 < X.length), noLess X[j] X[j + 1] = false) : rsT (bl X) := fun j hj => by
  have hj2 : j + 1 < X.length := by rw [bl_len] at hj; exact hj
  have h1 := h j hj2
  have e1 : (bl X)[j] = (X[j]'(by omega)).data.toList := by simp [bl]
  have e2 : (bl X)[j + 1] = X[j + 1].data.toList := by simp [bl]
  rw [e1, e2]
  unfold noLess at h1
  simpa using h1
theorem rsT_not {X : List ByteArray} {j : Nat} (hj : j + 1 < X.length) (h : noLess X[j] X[j + 1] = true) : ¬ rsT (bl X) := fun hr => by
  have h1 := hr j (by rw [bl_len]; exact hj)
  have e1 : (bl X)[j]'(by rw [bl_len]; omega) = (X[j]'(by omega)).data.toList := by simp [bl]
  have e2 : (bl X)[j + 1]'(by rw [bl_len]; exact hj) = X[j + 1].data.toList := by simp [bl]
  rw [e1, e2] at h1
  unfold noLess at h
  simp only [Bool.not_eq_true', decide_eq_false_iff_not] at h
  exact h h1
theorem TxAt.cells {W : World} {a : Option Addr} {n c : Nat} {X : List ByteArray} (h : TxAt W (.slice a n c) X) {k : Nat} (hk : k < X.length) : ∃ b o, a = some ⟨b, o, none⟩ ∧ ∀ j (h : j < X.length), W.cell? ⟨b, o + j, none⟩ = some (.string X[j]) := by
  obtain ⟨a', c', e, _, h⟩ := h
  injection e with e1 e2 e3
  subst e1
  exact h (by intro h0; rw [h0] at hk; simp at hk)
set_option maxRecDepth 100000 in
set_option maxHeartbeats 16000000 in
theorem entE0_any (Q : List Raw) (L : List Ent) (b o c : Nat) (w : World) (sh : ∀ e, e ∈ L → ShE e) (I : Ixs w (.slice (some ⟨b, o, none⟩) Q.length c) Q L) (h0 : 0 < L.length) :
    Calls Tryz.prog 77 #[.slice (some ⟨b, o, none⟩) Q.length c, .int .i64 0] w fun e w' => e = .returned (.int .i64 (entE L 0 : Nat)) ∧ Below w.heap.size w w' := by
  have hq : 0 < Q.length := by rw [I.ln]; exact h0
  obtain ⟨hsl, x0, x1, x2, x3, x4⟩ := es_all I.es hq
  simp only [Nat.zero_mul, Nat.add_zero] at x0 x1 x2 x3 x4
  have hok := fun W (h : Below w.heap.size w W) => (I.below h).ok 0 hq h0
  have HSH := hid (sh L[0] (List.getElem_mem h0))
  rw [entE_0 h0]
  generalize Q[0] = r at *
  generalize L[0] = en at *
  obtain ⟨⟨p, q⟩, rv, pv, bk⟩ := r
  obtain ⟨⟨p', q'⟩, eR, eP, bk'⟩ := en
  obtain ⟨hm, hrq, hpk, hbk⟩ := hok w (Below.refl _ _)
  simp only at hm hrq hpk hbk
  injection hm with hm1 hm2
  subst hm1 hm2 hbk
  obtain ⟨ra, rc, hrv, -⟩ := id hrq
  obtain ⟨pa, pc, hpv, -⟩ := id hpk
  subst hrv hpv
  have HRM := hid (fun W (h : Below w.heap.size w W) => hrq.below h)
  have HTX := hid (fun W (h : Below w.heap.size w W) => hpk.below h)
  have hqI : (0 : Int) < (Q.length : Int) := by omega
  clear I sh h0 hok hrq hpk hsl
  have HB0 := hid ((Below.refl w.heap.size w).alloc (Nat.le_refl _) (.cells #[.string p, .string q, .slice ra eR.length rc, .slice pa eP.length pc, .bool bk] 55))
  have HE0 := hid (heap_new w (.cells #[.string p, .string q, .slice ra eR.length rc, .slice pa eP.length pc, .bool bk] 55))
  have HM := hid (modError_any p q (w.alloc (.cells #[.string p, .string q, .slice ra eR.length rc, .slice pa eP.length pc, .bool bk] 55)) (by have := HSH.out.p; simp only at this; omega) (by have := HSH.out.v; simp only at this; omega))
  have hme : mErr (p, q) = modErr p.data.toList q.data.toList := rfl
  rw [← hme] at HM
  by_cases h : mErr (p, q) = 0
  · have HXR := hid (entW_none (e := ((p, q), eR, eP, bk)) h)
    rw [h] at HM
    clear h hme
    go_enter Tryz.func77, Tryz.ntmps77
    go_wp2_with fail
    refine HM.out.mono ?_
    rintro e wz ⟨rfl, hb⟩
    have HBz := hid (HB0.out.trans (hb.mono HB0.out.size))
    have HEz := hid (show wz.heap[w.heap.size]? = some (.cells #[.string p, .string q, .slice ra eR.length rc, .slice pa eP.length pc, .bool bk] 55 (0, 0)) by rw [hb.block _ (lt_of_blk HE0.out)]; exact HE0.out)
    clear hb HM
    have z0 : wz.cell? ⟨w.heap.size, 0, none⟩ = some (.string p) := by rw [Lib.cell_of_heap HEz.out]; rfl
    have z1 : wz.cell? ⟨w.heap.size, 1, none⟩ = some (.string q) := by rw [Lib.cell_of_heap HEz.out]; rfl
    have z2 : wz.cell? ⟨w.heap.size, 2, none⟩ = some (.slice ra eR.length rc) := by rw [Lib.cell_of_heap HEz.out]; rfl
    have z3 : wz.cell? ⟨w.heap.size, 3, none⟩ = some (.slice pa eP.length pc) := by rw [Lib.cell_of_heap HEz.out]; rfl
    have z4 : wz.cell? ⟨w.heap.size, 4, none⟩ = some (.bool bk) := by rw [Lib.cell_of_heap HEz.out]; rfl
    by_cases hf : 20 < eR.length
    · have q2 : (20 : Int) < (eR.length : Int) := by omega
      have HX := hid (HXR.out.trans (entR_full hf))
      clear hf
      go_wp2_with fail
      go_ret
      exact ⟨by rw [HX.out]; rfl, HBz.out⟩
    · have q2 : ¬ (20 : Int) < (eR.length : Int) := by omega
      have HF := hid hf
      have HRQ := hid (reqsE_any p eR _ wz HSH.out.rn HSH.out.rs (HRM.out _ HBz.out))
      rw [reqsR_code] at HRQ
      clear hf
      by_cases hc : codeE (reqE p eR) eR.length = 0
      · have HX := hid (HXR.out.trans (entR_pack HF.out hc))
        rw [hc] at HRQ
        clear hc
        go_wp2_with fail
        refine HRQ.out.mono ?_
        rintro e wy ⟨rfl, hb⟩
        have HBy := hid (HBz.out.trans (hb.mono HBz.out.size))
        have HEy := hid (show wy.heap[w.heap.size]? = some (.cells #[.string p, .string q, .slice ra eR.length rc, .slice pa eP.length pc, .bool bk] 55 (0, 0)) by rw [hb.block _ (lt_of_blk HEz.out)]; exact HEz.out)
        clear hb z0 z1 z2 z3 z4 HRQ
        have y0 : wy.cell? ⟨w.heap.size, 0, none⟩ = some (.string p) := by rw [Lib.cell_of_heap HEy.out]; rfl
        have y1 : wy.cell? ⟨w.heap.size, 1, none⟩ = some (.string q) := by rw [Lib.cell_of_heap HEy.out]; rfl
        have y2 : wy.cell? ⟨w.heap.size, 2, none⟩ = some (.slice ra eR.length rc) := by rw [Lib.cell_of_heap HEy.out]; rfl
        have y3 : wy.cell? ⟨w.heap.size, 3, none⟩ = some (.slice pa eP.length pc) := by rw [Lib.cell_of_heap HEy.out]; rfl
        have y4 : wy.cell? ⟨w.heap.size, 4, none⟩ = some (.bool bk) := by rw [Lib.cell_of_heap HEy.out]; rfl
        by_cases hp10 : 10 < eP.length
        · have q3 : (10 : Int) < (eP.length : Int) := by omega
          have HX2 := hid (HX.out.trans (pk_full (by rw [bl_len]; exact hp10)))
          clear hp10
          go_wp2_with fail
          go_ret
          exact ⟨by rw [HX2.out]; rfl, HBy.out⟩
        · have q3 : ¬ (10 : Int) < (eP.length : Int) := by omega
          have HP10 := hid (show ¬ 10 < (bl eP).length by rw [bl_len]; exact hp10)
          have hpl : eP.length ≤ 10 := by omega
          clear hp10
          go_wp2_with fail
          go_loopw [8] (fun kv wr => ∃ k : Nat, k ≤ eP.length ∧ kv = .int .i64 k ∧ Hid (∀ j (h : j < eP.length), j < k → noPk eP[j].data.toList = false) ∧ Hid (Below w.heap.size w wr) ∧ Hid (wr.heap[w.heap.size]? = some (.cells #[.string p, .string q, .slice ra eR.length rc, .slice pa eP.length pc, .bool bk] 55 (0, 0)))) (fun kv _ => eP.length - (intOf kv).toNat)
          case atStart => exact ⟨0, Nat.zero_le _, rfl, hid (fun j _ h => absurd h (Nat.not_lt_zero _)), HBy, HEy⟩
          case round =>
            clear y0 y1 y2 y3 y4
            obtain ⟨k, hk, rfl, HA, HBr, HEr⟩ := hrel
            have r0 : wr.cell? ⟨w.heap.size, 0, none⟩ = some (.string p) := by rw [Lib.cell_of_heap HEr.out]; rfl
            have r1 : wr.cell? ⟨w.heap.size, 1, none⟩ = some (.string q) := by rw [Lib.cell_of_heap HEr.out]; rfl
            have r2 : wr.cell? ⟨w.heap.size, 2, none⟩ = some (.slice ra eR.length rc) := by rw [Lib.cell_of_heap HEr.out]; rfl
            have r3 : wr.cell? ⟨w.heap.size, 3, none⟩ = some (.slice pa eP.length pc) := by rw [Lib.cell_of_heap HEr.out]; rfl
            have r4 : wr.cell? ⟨w.heap.size, 4, none⟩ = some (.bool bk) := by rw [Lib.cell_of_heap HEr.out]; rfl
            by_cases hlt : k < eP.length
            · have hkI : (k : Int) < (eP.length : Int) := by omega
              have hk0 : (0 : Int) ≤ (k : Int) := by omega
              obtain ⟨pb, po, hpa, hcl⟩ := (HTX.out _ HBr.out).cells hlt
              have t0 := hcl k hlt
              subst hpa
              have HLT := hid hlt
              have hsz := HSH.out.ps eP[k] (List.getElem_mem hlt)
              have HNX := hid (show noPk eP[k].data.toList = false → ∀ j (h : j < eP.length), j < k + 1 → noPk eP[j].data.toList = false from fun h0 j h1 h3 => by
                rcases Nat.lt_or_ge j k with h | h
                · exact HA.out j h1 h
                · have : j = k := by omega
                  subst this; exact h0)
              have HBD := hid (show noPk eP[k].data.toList = true → packErr (bl eP) = 1 from fun h => pk_text HP10.out (any_noPk' hlt h))
              generalize eP[k] = z at *
              clear hcl hlt
              by_cases hdot : z = ⟨#[46]⟩
              · subst hdot
                have s0 : ((⟨#[46]⟩ : ByteArray).toList == (⟨#[46]⟩ : ByteArray).toList) = true := by simp
                have HN2 := hid (HNX.out (by decide))
                go_wp2_with fail
                go_roundw
                case rel => first | exact ⟨k + 1, HLT.out, nr_idx k, HN2, HBr, HEr⟩ | exact ⟨k + 1, HLT.out, nx_idx HLT.out (by omega), HN2, HBr, HEr⟩
                case measure => first | exact nr_meas HLT.out | exact nx_meas HLT.out (by omega)
              · have hqd : (z.toList == [46]) = false := by rw [ByteArray.toList_eq]; exact beq_eq_false_iff_ne.2 (fun e => hdot (str_ext (by rw [e])))
                have hd2 : z.data.toList ≠ [46] := fun e => hdot (str_ext (by rw [e]))
                have HPE := hid (fun W => pathError_any z W (by omega))
                by_cases hpe : pathErr z.data.toList = 0
                · rw [hpe] at HPE
                  have HN2 := hid (HNX.out (by unfold noPk; simp [hpe]))
                  clear hpe hd2 hdot
                  go_wp2_with fail
                  refine (HPE.out _).mono ?_
                  rintro e wv ⟨rfl, hb⟩
                  have HBv := hid (HBr.out.trans (hb.mono HBr.out.size))
                  have HEv := hid ((hb.block _ (lt_of_blk HEr.out)).trans HEr.out)
                  clear hb
                  go_wp2_with fail
                  go_roundw
                  case rel => first | exact ⟨k + 1, HLT.out, nr_idx k, HN2, HBv, HEv⟩ | exact ⟨k + 1, HLT.out, nx_idx HLT.out (by omega), HN2, HBv, HEv⟩
                  case measure => first | exact nr_meas HLT.out | exact nx_meas HLT.out (by omega)
                · have HX2 := hid (HX.out.trans (HBD.out (by unfold noPk; simp [hpe, hd2])))
                  have hpos : (0 : Int) < ((pathErr z.data.toList : Nat) : Int) := by omega
                  generalize pathErr z.data.toList = pe at *
                  clear hpe hd2 hdot
                  go_wp2_with fail
                  refine (HPE.out _).mono ?_
                  rintro e wv ⟨rfl, hb⟩
                  have HBv := hid (HBr.out.trans (hb.mono HBr.out.size))
                  clear hb
                  go_wp2_with fail
                  go_ret
                  exact ⟨by rw [HX2.out]; rfl, HBv.out⟩
            · have hkI : ¬ (k : Int) < (eP.length : Int) := by omega
              have HNO := hid (show (bl eP).any noPk = false from any_noPk fun j h => HA.out j h (by omega))
              clear hlt
              go_wp2_with fail
              go_loopw [9] (fun kv wr => ∃ k : Nat, 1 ≤ k ∧ (k ≤ eP.length ∨ k = 1) ∧ kv = .int .i64 k ∧ Hid (∀ j (h : j + 1 < eP.length), j + 1 < k → noLess eP[j] eP[j + 1] = false) ∧ Hid (Below w.heap.size w wr) ∧ Hid (wr.heap[w.heap.size]? = some (.cells #[.string p, .string q, .slice ra eR.length rc, .slice pa eP.length pc, .bool bk] 55 (0, 0)))) (fun kv _ => eP.length - (intOf kv).toNat)
              case atStart => exact ⟨1, Nat.le_refl _, Or.inr rfl, rfl, hid (fun j _ h => by omega), HBr, HEr⟩
              case round =>
                clear r0 r1 r2 r3 r4
                obtain ⟨k2, hk1, hk2, rfl, HA2, HBs, HEs⟩ := hrel
                have s0 : wr.cell? ⟨w.heap.size, 0, none⟩ = some (.string p) := by rw [Lib.cell_of_heap HEs.out]; rfl
                have s1 : wr.cell? ⟨w.heap.size, 1, none⟩ = some (.string q) := by rw [Lib.cell_of_heap HEs.out]; rfl
                have s2 : wr.cell? ⟨w.heap.size, 2, none⟩ = some (.slice ra eR.length rc) := by rw [Lib.cell_of_heap HEs.out]; rfl
                have s3 : wr.cell? ⟨w.heap.size, 3, none⟩ = some (.slice pa eP.length pc) := by rw [Lib.cell_of_heap HEs.out]; rfl
                have s4 : wr.cell? ⟨w.heap.size, 4, none⟩ = some (.bool bk) := by rw [Lib.cell_of_heap HEs.out]; rfl
                by_cases hlt : k2 < eP.length
                · obtain ⟨j, rfl⟩ : ∃ j, k2 = j + 1 := ⟨k2 - 1, by omega⟩
                  have hkI2 : ((j + 1 : Nat) : Int) < (eP.length : Int) := by omega
                  have hkI3 : (j : Int) < (eP.length : Int) := by omega
                  have hk00 : (0 : Int) ≤ ((j + 1 : Nat) : Int) := by omega
                  have hk01 : (0 : Int) ≤ (j : Int) := by omega
                  have hk02 : ((j + 1 : Nat) : Int) - 1 = (j : Int) := by omega
                  have hwp : IntKind.i64.wrap (j : Int) = (j : Int) := by rw [IntKind.wrap_i64]; omega
                  have hk03 : (j : Int) + 1 - 1 = (j : Int) := by omega
                  obtain ⟨pb, po, hpa, hcl⟩ := (HTX.out _ HBs.out).cells hlt
                  have t0 := hcl (j + 1) hlt
                  have t1 := hcl j (by omega)
                  subst hpa
                  have HLT := hid hlt
                  have HNX := hid (show noLess eP[j] eP[j + 1] = false → ∀ i (h : i + 1 < eP.length), i + 1 < j + 1 + 1 → noLess eP[i] eP[i + 1] = false from fun h0 i h1 h3 => by
                    rcases Nat.lt_or_ge i j with h | h
                    · exact HA2.out i h1 (by omega)
                    · have : i = j := by omega
                      subst this; exact h0)
                  have HBD := hid (show noLess eP[j] eP[j + 1] = true → packErr (bl eP) = 8 from fun h => pk_fall HP10.out HNO.out (rsT_not hlt h))
                  generalize eP[j + 1] = za at *
                  generalize eP[j] = zb at *
                  have hle := fun X => leq_is za zb X
                  clear hcl hlt
                  cases hnl : noLess zb za
                  · rw [hnl] at hle
                    have HN2 := hid (HNX.out hnl)
                    clear hnl
                    go_wp2_with fail
                    go_quiet (fail)
                    have HBd := hid (below_drawn_of HBs.out nq)
                    have HEd := hid (show (wr.drewN nq).heap[w.heap.size]? = _ from HEs.out)
                    go_wp2_with fail
                    go_roundw
                    case rel => first | exact ⟨j + 1 + 1, by omega, Or.inl HLT.out, nr_idx (j + 1), HN2, HBd, HEd⟩ | exact ⟨j + 1 + 1, by omega, Or.inl HLT.out, nx_idx HLT.out (by omega), HN2, HBd, HEd⟩
                    case measure => first | exact nr_meas HLT.out | exact nx_meas HLT.out (by omega)
                  · rw [hnl] at hle
                    have HX2 := hid (HX.out.trans (HBD.out hnl))
                    clear hnl
                    go_wp2_with fail
                    go_quiet (fail)
                    have HBd := hid (below_drawn_of HBs.out nq)
                    go_wp2_with fail
                    go_ret
                    exact ⟨by rw [HX2.out]; rfl, HBd.out⟩
                · have hkI2 : ¬ (k2 : Int) < (eP.length : Int) := by omega
                  have HX2 := hid (HX.out.trans (pk_rise HP10.out HNO.out (rsT_of fun j h => HA2.out j h (by omega))))
                  clear hlt
                  go_wp2_with fail
                  go_ret
                  exact ⟨by rw [HX2.out]; rfl, HBs.out⟩
      · have HX := hid (HXR.out.trans (entR_req HF.out hc))
        have hpos : (0 : Int) < ((codeE (reqE p eR) eR.length : Nat) : Int) := by omega
        generalize codeE (reqE p eR) eR.length = cd at *
        clear hc
        go_wp2_with fail
        refine HRQ.out.mono ?_
        rintro e wy ⟨rfl, hb⟩
        have HBy := hid (HBz.out.trans (hb.mono HBz.out.size))
        clear hb
        go_wp2_with fail
        go_ret
        exact ⟨by rw [HX.out]; rfl, HBy.out⟩
  · have HX := hid (entW_bad (o := none) (e := ((p, q), eR, eP, bk)) h)
    have hpos : (0 : Int) < ((mErr (p, q) : Nat) : Int) := by omega
    generalize mErr (p, q) = z at *
    clear h hme
    go_enter Tryz.func77, Tryz.ntmps77
    go_wp2_with fail
    refine HM.out.mono ?_
    rintro e wz ⟨rfl, hb⟩
    have HBz := hid (HB0.out.trans (hb.mono HB0.out.size))
    clear hb HM
    go_wp2_with fail
    go_ret
    exact ⟨by rw [HX.out]; rfl, HBz.out⟩
set_option maxRecDepth 100000 in
set_option maxHeartbeats 16000000 in
theorem entE1_any (Q : List Raw) (L : List Ent) (b o c : Nat) (w : World) (sh : ∀ e, e ∈ L → ShE e) (I : Ixs w (.slice (some ⟨b, o, none⟩) Q.length c) Q L) (k : Nat) (h0 : k + 1 < L.length) (hn : L.length ≤ 1000) :
    Calls Tryz.prog 77 #[.slice (some ⟨b, o, none⟩) Q.length c, .int .i64 ((k + 1 : Nat) : Int)] w fun e w' => e = .returned (.int .i64 (entE L (k + 1) : Nat)) ∧ Below w.heap.size w w' := by
  have hq : k + 1 < Q.length := by rw [I.ln]; exact h0
  obtain ⟨hsl, x0, x1, x2, x3, x4⟩ := es_all I.es hq
  have hqk : k < Q.length := by omega
  have hlk : k < L.length := by omega
  obtain ⟨_, u0, u1, _, _, _⟩ := es_all I.es hqk
  have HPM := hid (show Q[k].1 = L[k].1 from (I.ok k hqk hlk).m)
  have HSK := hid (sh L[k] (List.getElem_mem hlk))
  have hok := fun W (h : Below w.heap.size w W) => (I.below h).ok (k + 1) hq h0
  have HSH := hid (sh L[k + 1] (List.getElem_mem h0))
  rw [entE_1 h0]
  generalize Q[k + 1] = r at *
  generalize L[k + 1] = en at *
  have hpv : (L[k]'hlk).1.2.size < 999999 := HSK.out.v
  rw [← HPM.out] at hpv ⊢
  generalize (Q[k]'hqk).1 = pm at *
  obtain ⟨pp, pq⟩ := pm
  simp only at u0 u1 hpv
  obtain ⟨⟨p, q⟩, rv, pv, bk⟩ := r
  obtain ⟨⟨p', q'⟩, eR, eP, bk'⟩ := en
  obtain ⟨hm, hrq, hpk, hbk⟩ := hok w (Below.refl _ _)
  simp only at hm hrq hpk hbk
  injection hm with hm1 hm2
  subst hm1 hm2 hbk
  obtain ⟨ra, rc, hrv, -⟩ := id hrq
  obtain ⟨pa, pc, hpv9, -⟩ := id hpk
  subst hrv hpv9
  have HRM := hid (fun W (h : Below w.heap.size w W) => hrq.below h)
  have HTX := hid (fun W (h : Below w.heap.size w W) => hpk.below h)
  have hqI : ((k + 1 : Nat) : Int) < (Q.length : Int) := by omega
  have hqJ : (0 : Int) ≤ ((k + 1 : Nat) : Int) := by omega
  have hqK : (0 : Int) < ((k + 1 : Nat) : Int) := by omega
  have hqL : ((k + 1 : Nat) : Int) - 1 = (k : Int) := by omega
  have hqM : (k : Int) < (Q.length : Int) := by omega
  have hqN : (0 : Int) ≤ (k : Int) := by omega
  have hwp : IntKind.i64.wrap (k : Int) = (k : Int) := by rw [IntKind.wrap_i64]; omega
  have hqO : (k : Int) + 1 - 1 = (k : Int) := by omega
  have hqP : (k : Int) + 1 < (Q.length : Int) := by omega
  have hqR : (0 : Int) ≤ (k : Int) + 1 := by omega
  have hqS : (0 : Int) < (k : Int) + 1 := by omega
  have hqT : ((k : Int) + 1).toNat = k + 1 := by omega
  clear I sh h0 hok hrq hpk hsl
  have HB0 := hid ((Below.refl w.heap.size w).alloc (Nat.le_refl _) (.cells #[.string p, .string q, .slice ra eR.length rc, .slice pa eP.length pc, .bool bk] 55))
  have HE0 := hid (heap_new w (.cells #[.string p, .string q, .slice ra eR.length rc, .slice pa eP.length pc, .bool bk] 55))
  have HM := hid (modError_any p q (w.alloc (.cells #[.string p, .string q, .slice ra eR.length rc, .slice pa eP.length pc, .bool bk] 55)) (by have := HSH.out.p; simp only at this; omega) (by have := HSH.out.v; simp only at this; omega))
  have hme : mErr (p, q) = modErr p.data.toList q.data.toList := rfl
  rw [← hme] at HM
  by_cases h : mErr (p, q) = 0
  · have H0 := hid h
    rw [h] at HM
    clear h hme
    go_enter Tryz.func77, Tryz.ntmps77
    go_wp2_with fail
    refine HM.out.mono ?_
    rintro e wx ⟨rfl, hb⟩
    have HBx := hid (HB0.out.trans (hb.mono HB0.out.size))
    have HEx := hid (show wx.heap[w.heap.size]? = some (.cells #[.string p, .string q, .slice ra eR.length rc, .slice pa eP.length pc, .bool bk] 55 (0, 0)) by rw [hb.block _ (lt_of_blk HE0.out)]; exact HE0.out)
    clear hb HM
    have HIA := hid (fun W => isA_any (pp, pq) (p, q) W hpv (by have := HSH.out.v; simp only at this ⊢; omega))
    have g0 := cell_below HBx.out u0
    have g1 := cell_below HBx.out u1
    have f0 : wx.cell? ⟨w.heap.size, 0, none⟩ = some (.string p) := by rw [Lib.cell_of_heap HEx.out]; rfl
    have f1 : wx.cell? ⟨w.heap.size, 1, none⟩ = some (.string q) := by rw [Lib.cell_of_heap HEx.out]; rfl
    have HT := hid (fun W' (hW : Below wx.heap.size wx W') => (show (fun W' => W'.cell? ⟨b, o + k * 5, none⟩ = some (.string pp) ∧ W'.cell? ⟨b, o + k * 5 + 1, none⟩ = some (.string pq) ∧ W'.cell? ⟨w.heap.size, 0, none⟩ = some (.string p) ∧ W'.cell? ⟨w.heap.size, 1, none⟩ = some (.string q) ∧ Hid (Below wx.heap.size wx W')) W' from ⟨cell_below hW g0, cell_below hW g1, cell_below hW f0, cell_below hW f1, hid hW⟩))
    cases hah : mAhead (pp, pq) (p, q)
    · have HX := hid (entW_order (p := (pp, pq)) (e := ((p, q), eR, eP, bk)) H0.out hah)
      rw [hah] at HIA
      clear hah
      go_wp2_with fail
      go_region_held (fun W' => W'.cell? ⟨b, o + k * 5, none⟩ = some (.string pp) ∧ W'.cell? ⟨b, o + k * 5 + 1, none⟩ = some (.string pq) ∧ W'.cell? ⟨w.heap.size, 0, none⟩ = some (.string p) ∧ W'.cell? ⟨w.heap.size, 1, none⟩ = some (.string q) ∧ Hid (Below wx.heap.size wx W')) (first | exact HT.out _ HRa.out | exact HT.out _ (below_drawn _ 1)) (first
        | (go_at_call 113; refine (HIA.out _).mono ?_; rintro e w' ⟨rfl, hb⟩; have HRa := hid ((below_drawn wx 1).trans (hb.mono (Nat.le_refl _))); clear hb))
      all_goals
        have HBz := hid (HBx.out.trans (HRa.out.mono HBx.out.size))
        go_wp2_with fail
        go_ret
        exact ⟨by rw [HX.out]; rfl, HBz.out⟩
    · have HXR := hid (entW_some (p := (pp, pq)) (e := ((p, q), eR, eP, bk)) H0.out hah)
      rw [hah] at HIA
      clear hah
      go_wp2_with fail
      go_region_held (fun W' => W'.cell? ⟨b, o + k * 5, none⟩ = some (.string pp) ∧ W'.cell? ⟨b, o + k * 5 + 1, none⟩ = some (.string pq) ∧ W'.cell? ⟨w.heap.size, 0, none⟩ = some (.string p) ∧ W'.cell? ⟨w.heap.size, 1, none⟩ = some (.string q) ∧ Hid (Below wx.heap.size wx W')) (first | exact HT.out _ HRa.out | exact HT.out _ (below_drawn _ 1)) (first
        | (go_at_call 113; refine (HIA.out _).mono ?_; rintro e w' ⟨rfl, hb⟩; have HRa := hid ((below_drawn wx 1).trans (hb.mono (Nat.le_refl _))); clear hb))
      all_goals
        have HBz := hid (HBx.out.trans (HRa.out.mono HBx.out.size))
        obtain ⟨wz, hwz⟩ : ∃ wz, w' = wz := ⟨_, rfl⟩
        rw [hwz] at HBz ⊢
        have HEz := hid (show wz.heap[w.heap.size]? = some (.cells #[.string p, .string q, .slice ra eR.length rc, .slice pa eP.length pc, .bool bk] 55 (0, 0)) by rw [← hwz, HRa.out.block _ (lt_of_blk HEx.out)]; exact HEx.out)
        clear hwz g0 g1 f0 f1
        have z0 : wz.cell? ⟨w.heap.size, 0, none⟩ = some (.string p) := by rw [Lib.cell_of_heap HEz.out]; rfl
        have z1 : wz.cell? ⟨w.heap.size, 1, none⟩ = some (.string q) := by rw [Lib.cell_of_heap HEz.out]; rfl
        have z2 : wz.cell? ⟨w.heap.size, 2, none⟩ = some (.slice ra eR.length rc) := by rw [Lib.cell_of_heap HEz.out]; rfl
        have z3 : wz.cell? ⟨w.heap.size, 3, none⟩ = some (.slice pa eP.length pc) := by rw [Lib.cell_of_heap HEz.out]; rfl
        have z4 : wz.cell? ⟨w.heap.size, 4, none⟩ = some (.bool bk) := by rw [Lib.cell_of_heap HEz.out]; rfl
        by_cases hf : 20 < eR.length
        · have q2 : (20 : Int) < (eR.length : Int) := by omega
          have HX := hid (HXR.out.trans (entR_full hf))
          clear hf
          go_wp2_with fail
          go_ret
          exact ⟨by rw [HX.out]; rfl, HBz.out⟩
        · have q2 : ¬ (20 : Int) < (eR.length : Int) := by omega
          have HF := hid hf
          have HRQ := hid (reqsE_any p eR _ wz HSH.out.rn HSH.out.rs (HRM.out _ HBz.out))
          rw [reqsR_code] at HRQ
          clear hf
          by_cases hc : codeE (reqE p eR) eR.length = 0
          · have HX := hid (HXR.out.trans (entR_pack HF.out hc))
            rw [hc] at HRQ
            clear hc
            go_wp2_with fail
            refine HRQ.out.mono ?_
            rintro e wy ⟨rfl, hb⟩
            have HBy := hid (HBz.out.trans (hb.mono HBz.out.size))
            have HEy := hid (show wy.heap[w.heap.size]? = some (.cells #[.string p, .string q, .slice ra eR.length rc, .slice pa eP.length pc, .bool bk] 55 (0, 0)) by rw [hb.block _ (lt_of_blk HEz.out)]; exact HEz.out)
            clear hb z0 z1 z2 z3 z4 HRQ
            have y0 : wy.cell? ⟨w.heap.size, 0, none⟩ = some (.string p) := by rw [Lib.cell_of_heap HEy.out]; rfl
            have y1 : wy.cell? ⟨w.heap.size, 1, none⟩ = some (.string q) := by rw [Lib.cell_of_heap HEy.out]; rfl
            have y2 : wy.cell? ⟨w.heap.size, 2, none⟩ = some (.slice ra eR.length rc) := by rw [Lib.cell_of_heap HEy.out]; rfl
            have y3 : wy.cell? ⟨w.heap.size, 3, none⟩ = some (.slice pa eP.length pc) := by rw [Lib.cell_of_heap HEy.out]; rfl
            have y4 : wy.cell? ⟨w.heap.size, 4, none⟩ = some (.bool bk) := by rw [Lib.cell_of_heap HEy.out]; rfl
            by_cases hp10 : 10 < eP.length
            · have q3 : (10 : Int) < (eP.length : Int) := by omega
              have HX2 := hid (HX.out.trans (pk_full (by rw [bl_len]; exact hp10)))
              clear hp10
              go_wp2_with fail
              go_ret
              exact ⟨by rw [HX2.out]; rfl, HBy.out⟩
            · have q3 : ¬ (10 : Int) < (eP.length : Int) := by omega
              have HP10 := hid (show ¬ 10 < (bl eP).length by rw [bl_len]; exact hp10)
              have hpl : eP.length ≤ 10 := by omega
              clear hp10
              go_wp2_with fail
              go_loopw [8] (fun kv wr => ∃ k : Nat, k ≤ eP.length ∧ kv = .int .i64 k ∧ Hid (∀ j (h : j < eP.length), j < k → noPk eP[j].data.toList = false) ∧ Hid (Below w.heap.size w wr) ∧ Hid (wr.heap[w.heap.size]? = some (.cells #[.string p, .string q, .slice ra eR.length rc, .slice pa eP.length pc, .bool bk] 55 (0, 0)))) (fun kv _ => eP.length - (intOf kv).toNat)
              case atStart => exact ⟨0, Nat.zero_le _, rfl, hid (fun j _ h => absurd h (Nat.not_lt_zero _)), HBy, HEy⟩
              case round =>
                clear y0 y1 y2 y3 y4
                obtain ⟨k, hk, rfl, HA, HBr, HEr⟩ := hrel
                have r0 : wr.cell? ⟨w.heap.size, 0, none⟩ = some (.string p) := by rw [Lib.cell_of_heap HEr.out]; rfl
                have r1 : wr.cell? ⟨w.heap.size, 1, none⟩ = some (.string q) := by rw [Lib.cell_of_heap HEr.out]; rfl
                have r2 : wr.cell? ⟨w.heap.size, 2, none⟩ = some (.slice ra eR.length rc) := by rw [Lib.cell_of_heap HEr.out]; rfl
                have r3 : wr.cell? ⟨w.heap.size, 3, none⟩ = some (.slice pa eP.length pc) := by rw [Lib.cell_of_heap HEr.out]; rfl
                have r4 : wr.cell? ⟨w.heap.size, 4, none⟩ = some (.bool bk) := by rw [Lib.cell_of_heap HEr.out]; rfl
                by_cases hlt : k < eP.length
                · have hkI : (k : Int) < (eP.length : Int) := by omega
                  have hk0 : (0 : Int) ≤ (k : Int) := by omega
                  obtain ⟨pb, po, hpa, hcl⟩ := (HTX.out _ HBr.out).cells hlt
                  have t0 := hcl k hlt
                  subst hpa
                  have HLT := hid hlt
                  have hsz := HSH.out.ps eP[k] (List.getElem_mem hlt)
                  have HNX := hid (show noPk eP[k].data.toList = false → ∀ j (h : j < eP.length), j < k + 1 → noPk eP[j].data.toList = false from fun h0 j h1 h3 => by
                    rcases Nat.lt_or_ge j k with h | h
                    · exact HA.out j h1 h
                    · have : j = k := by omega
                      subst this; exact h0)
                  have HBD := hid (show noPk eP[k].data.toList = true → packErr (bl eP) = 1 from fun h => pk_text HP10.out (any_noPk' hlt h))
                  generalize eP[k] = z at *
                  clear hcl hlt
                  by_cases hdot : z = ⟨#[46]⟩
                  · subst hdot
                    have s0 : ((⟨#[46]⟩ : ByteArray).toList == (⟨#[46]⟩ : ByteArray).toList) = true := by simp
                    have HN2 := hid (HNX.out (by decide))
                    go_wp2_with fail
                    go_roundw
                    case rel => first | exact ⟨k + 1, HLT.out, nr_idx k, HN2, HBr, HEr⟩ | exact ⟨k + 1, HLT.out, nx_idx HLT.out (by omega), HN2, HBr, HEr⟩
                    case measure => first | exact nr_meas HLT.out | exact nx_meas HLT.out (by omega)
                  · have hqd : (z.toList == [46]) = false := by rw [ByteArray.toList_eq]; exact beq_eq_false_iff_ne.2 (fun e => hdot (str_ext (by rw [e])))
                    have hd2 : z.data.toList ≠ [46] := fun e => hdot (str_ext (by rw [e]))
                    have HPE := hid (fun W => pathError_any z W (by omega))
                    by_cases hpe : pathErr z.data.toList = 0
                    · rw [hpe] at HPE
                      have HN2 := hid (HNX.out (by unfold noPk; simp [hpe]))
                      clear hpe hd2 hdot
                      go_wp2_with fail
                      refine (HPE.out _).mono ?_
                      rintro e wv ⟨rfl, hb⟩
                      have HBv := hid (HBr.out.trans (hb.mono HBr.out.size))
                      have HEv := hid ((hb.block _ (lt_of_blk HEr.out)).trans HEr.out)
                      clear hb
                      go_wp2_with fail
                      go_roundw
                      case rel => first | exact ⟨k + 1, HLT.out, nr_idx k, HN2, HBv, HEv⟩ | exact ⟨k + 1, HLT.out, nx_idx HLT.out (by omega), HN2, HBv, HEv⟩
                      case measure => first | exact nr_meas HLT.out | exact nx_meas HLT.out (by omega)
                    · have HX2 := hid (HX.out.trans (HBD.out (by unfold noPk; simp [hpe, hd2])))
                      have hpos : (0 : Int) < ((pathErr z.data.toList : Nat) : Int) := by omega
                      generalize pathErr z.data.toList = pe at *
                      clear hpe hd2 hdot
                      go_wp2_with fail
                      refine (HPE.out _).mono ?_
                      rintro e wv ⟨rfl, hb⟩
                      have HBv := hid (HBr.out.trans (hb.mono HBr.out.size))
                      clear hb
                      go_wp2_with fail
                      go_ret
                      exact ⟨by rw [HX2.out]; rfl, HBv.out⟩
                · have hkI : ¬ (k : Int) < (eP.length : Int) := by omega
                  have HNO := hid (show (bl eP).any noPk = false from any_noPk fun j h => HA.out j h (by omega))
                  clear hlt
                  go_wp2_with fail
                  go_loopw [9] (fun kv wr => ∃ k : Nat, 1 ≤ k ∧ (k ≤ eP.length ∨ k = 1) ∧ kv = .int .i64 k ∧ Hid (∀ j (h : j + 1 < eP.length), j + 1 < k → noLess eP[j] eP[j + 1] = false) ∧ Hid (Below w.heap.size w wr) ∧ Hid (wr.heap[w.heap.size]? = some (.cells #[.string p, .string q, .slice ra eR.length rc, .slice pa eP.length pc, .bool bk] 55 (0, 0)))) (fun kv _ => eP.length - (intOf kv).toNat)
                  case atStart => exact ⟨1, Nat.le_refl _, Or.inr rfl, rfl, hid (fun j _ h => by omega), HBr, HEr⟩
                  case round =>
                    clear r0 r1 r2 r3 r4
                    obtain ⟨k2, hk1, hk2, rfl, HA2, HBs, HEs⟩ := hrel
                    have s0 : wr.cell? ⟨w.heap.size, 0, none⟩ = some (.string p) := by rw [Lib.cell_of_heap HEs.out]; rfl
                    have s1 : wr.cell? ⟨w.heap.size, 1, none⟩ = some (.string q) := by rw [Lib.cell_of_heap HEs.out]; rfl
                    have s2 : wr.cell? ⟨w.heap.size, 2, none⟩ = some (.slice ra eR.length rc) := by rw [Lib.cell_of_heap HEs.out]; rfl
                    have s3 : wr.cell? ⟨w.heap.size, 3, none⟩ = some (.slice pa eP.length pc) := by rw [Lib.cell_of_heap HEs.out]; rfl
                    have s4 : wr.cell? ⟨w.heap.size, 4, none⟩ = some (.bool bk) := by rw [Lib.cell_of_heap HEs.out]; rfl
                    by_cases hlt : k2 < eP.length
                    · obtain ⟨j, rfl⟩ : ∃ j, k2 = j + 1 := ⟨k2 - 1, by omega⟩
                      have hkI2 : ((j + 1 : Nat) : Int) < (eP.length : Int) := by omega
                      have hkI3 : (j : Int) < (eP.length : Int) := by omega
                      have hk00 : (0 : Int) ≤ ((j + 1 : Nat) : Int) := by omega
                      have hk01 : (0 : Int) ≤ (j : Int) := by omega
                      have hk02 : ((j + 1 : Nat) : Int) - 1 = (j : Int) := by omega
                      have hwp : IntKind.i64.wrap (j : Int) = (j : Int) := by rw [IntKind.wrap_i64]; omega
                      have hk03 : (j : Int) + 1 - 1 = (j : Int) := by omega
                      obtain ⟨pb, po, hpa, hcl⟩ := (HTX.out _ HBs.out).cells hlt
                      have t0 := hcl (j + 1) hlt
                      have t1 := hcl j (by omega)
                      subst hpa
                      have HLT := hid hlt
                      have HNX := hid (show noLess eP[j] eP[j + 1] = false → ∀ i (h : i + 1 < eP.length), i + 1 < j + 1 + 1 → noLess eP[i] eP[i + 1] = false from fun h0 i h1 h3 => by
                        rcases Nat.lt_or_ge i j with h | h
                        · exact HA2.out i h1 (by omega)
                        · have : i = j := by omega
                          subst this; exact h0)
                      have HBD := hid (show noLess eP[j] eP[j + 1] = true → packErr (bl eP) = 8 from fun h => pk_fall HP10.out HNO.out (rsT_not hlt h))
                      generalize eP[j + 1] = za at *
                      generalize eP[j] = zb at *
                      have hle := fun X => leq_is za zb X
                      clear hcl hlt
                      cases hnl : noLess zb za
                      · rw [hnl] at hle
                        have HN2 := hid (HNX.out hnl)
                        clear hnl
                        go_wp2_with fail
                        go_quiet (fail)
                        have HBd := hid (below_drawn_of HBs.out nq)
                        have HEd := hid (show (wr.drewN nq).heap[w.heap.size]? = _ from HEs.out)
                        go_wp2_with fail
                        go_roundw
                        case rel => first | exact ⟨j + 1 + 1, by omega, Or.inl HLT.out, nr_idx (j + 1), HN2, HBd, HEd⟩ | exact ⟨j + 1 + 1, by omega, Or.inl HLT.out, nx_idx HLT.out (by omega), HN2, HBd, HEd⟩
                        case measure => first | exact nr_meas HLT.out | exact nx_meas HLT.out (by omega)
                      · rw [hnl] at hle
                        have HX2 := hid (HX.out.trans (HBD.out hnl))
                        clear hnl
                        go_wp2_with fail
                        go_quiet (fail)
                        have HBd := hid (below_drawn_of HBs.out nq)
                        go_wp2_with fail
                        go_ret
                        exact ⟨by rw [HX2.out]; rfl, HBd.out⟩
                    · have hkI2 : ¬ (k2 : Int) < (eP.length : Int) := by omega
                      have HX2 := hid (HX.out.trans (pk_rise HP10.out HNO.out (rsT_of fun j h => HA2.out j h (by omega))))
                      clear hlt
                      go_wp2_with fail
                      go_ret
                      exact ⟨by rw [HX2.out]; rfl, HBs.out⟩
          · have HX := hid (HXR.out.trans (entR_req HF.out hc))
            have hpos : (0 : Int) < ((codeE (reqE p eR) eR.length : Nat) : Int) := by omega
            generalize codeE (reqE p eR) eR.length = cd at *
            clear hc
            go_wp2_with fail
            refine HRQ.out.mono ?_
            rintro e wy ⟨rfl, hb⟩
            have HBy := hid (HBz.out.trans (hb.mono HBz.out.size))
            clear hb
            go_wp2_with fail
            go_ret
            exact ⟨by rw [HX.out]; rfl, HBy.out⟩
  · have HX := hid (entW_bad (o := some (pp, pq)) (e := ((p, q), eR, eP, bk)) h)
    have hpos : (0 : Int) < ((mErr (p, q) : Nat) : Int) := by omega
    generalize mErr (p, q) = z at *
    clear h hme
    go_enter Tryz.func77, Tryz.ntmps77
    go_wp2_with fail
    refine HM.out.mono ?_
    rintro e wz ⟨rfl, hb⟩
    have HBz := hid (HB0.out.trans (hb.mono HB0.out.size))
    clear hb HM
    go_wp2_with fail
    go_ret
    exact ⟨by rw [HX.out]; rfl, HBz.out⟩
theorem entE_any (Q : List Raw) (L : List Ent) (v : Value) (i : Nat) (w : World) (hn : L.length ≤ 1000) (sh : ∀ e, e ∈ L → ShE e) (I : Ixs w v Q L) (h0 : i < L.length) :
    Calls Tryz.prog 77 #[v, .int .i64 (i : Int)] w fun e w' => e = .returned (.int .i64 (entE L i : Nat)) ∧ Below w.heap.size w w' := by
  obtain ⟨a, c, rfl, _, _, h⟩ := id I.es
  obtain ⟨b, o, rfl, _⟩ := h (by intro e; have := I.ln; rw [e] at this; simp at this; omega)
  cases i with
  | zero => exact entE0_any Q L b o c w sh I h0
  | succ k => exact entE1_any Q L b o c w sh I k h0 hn
end Ve
end Go.Proofs.YtjhiajeeijfkeaaGreatDoor

/-
  What the document's answer says of an index (IndexFault).
-/
namespace Go.Proofs.YtjhiajeeijfkeaaGreatDoor
open Go.RowKit Go.Maps
namespace Ve

theorem put2_below {W w : World} {B b : Nat} {x y : Value} (h : Below B w W) (hb : B ≤ b) : Below B w ((W.setCell ⟨b, 0, none⟩ x).setCell ⟨b, 1, none⟩ y) :=
  (h.setCell (p := ⟨b, 0, none⟩) hb _).setCell (p := ⟨b, 1, none⟩) hb _
theorem nonE_five {Q : List Raw} {R : List Bm} : codeE (nonE Q R) R.length = 0 ∨ codeE (nonE Q R) R.length = 5 := by
  unfold codeE
  cases h : fstE (nonE Q R) R.length with
  | none => exact Or.inl rfl
  | some j =>
    obtain ⟨h1, h2, _⟩ := fstE_of_some h
    show nonE Q R j = 0 ∨ nonE Q R j = 5
    rw [nonE_at h1] at h2 ⊢
    unfold nonW at h2 ⊢
    by_cases h3 : idxOf (isM R[j]) Q < 0
    · rw [if_pos h3]; exact Or.inr rfl
    · rw [if_neg h3]; exact Or.inl rfl
theorem reqE2_bad {Q : List Raw} {L : List Ent} {i k : Nat} (hi : i < L.length) (hk : k < L[i].2.1.length) (h : idxOf (isM L[i].2.1[k]) Q < 0) : reqE2 Q L i = 5 := by
  rw [reqE2_at hi]
  rcases nonE_five (Q := Q) (R := L[i].2.1) with h1 | h1
  · exfalso
    unfold codeE at h1
    cases h2 : fstE (nonE Q L[i].2.1) L[i].2.1.length with
    | none =>
      have := fstE_of_none h2 k hk
      rw [nonE_at hk] at this
      unfold nonW at this
      rw [if_pos h] at this; cases this
    | some j =>
      rw [h2] at h1
      exact (fstE_of_some h2).2.1 h1
  · exact h1
theorem reqE2_good {Q : List Raw} {L : List Ent} {i : Nat} (hi : i < L.length) (h : ∀ k (hk : k < L[i].2.1.length), 0 ≤ idxOf (isM L[i].2.1[k]) Q) : reqE2 Q L i = 0 := by
  rw [reqE2_at hi]
  exact codeE_none (fstE_none fun j hj => by
    rw [nonE_at hj]
    unfold nonW
    rw [if_neg (Int.not_lt.2 (h j hj))])
set_option maxRecDepth 100000 in
set_option maxHeartbeats 8000000 in
theorem iFault_some (Q : List Raw) (L : List Ent) (b o c : Nat) (w : World) (hn : L.length ≤ 1000) (sh : ∀ e, e ∈ L → ShE e) (I : Ixs w (.slice (some ⟨b, o, none⟩) Q.length c) Q L) (h0 : 0 < L.length) :
    Calls Tryz.prog 45 #[.slice (some ⟨b, o, none⟩) Q.length c] w fun e w' => e = .returned (faultV (chk Q L)) ∧ Below w.heap.size w w' := by
  have HLN := hid I.ln
  have hqn : Q.length ≤ 1000 := by rw [I.ln]; exact hn
  have HB0 := hid ((Below.refl w.heap.size w).alloc (Nat.le_refl _) (.cells #[.int .i64 0, .int .i64 0] 42))
  have HE0 := hid (heap_new w (.cells #[.int .i64 0, .int .i64 0] 42))
  by_cases h1 : 100 < L.length
  · have q1 : (100 : Int) < (Q.length : Int) := by have := HLN.out; omega
    have HBR := hid (fun W => rbare_any 7 W)
    have HX := hid (chk_full (Q := Q) h1)
    clear I sh h1
    go_enter Tryz.func45, Tryz.ntmps45
    go_wp2_with fail
    refine (HBR.out _).mono ?_
    rintro e w1 ⟨rfl, hb⟩
    have HB1 := hid (HB0.out.trans (hb.mono HB0.out.size))
    have HE1 := hid ((hb.block _ (lt_of_blk HE0.out)).trans HE0.out)
    clear hb
    have s0 : w1.cell? ⟨w.heap.size, 0, none⟩ = some (.int .i64 0) := by rw [Lib.cell_of_heap HE1.out]; rfl
    have s1 : w1.cell? ⟨w.heap.size, 1, none⟩ = some (.int .i64 0) := by rw [Lib.cell_of_heap HE1.out]; rfl
    have tf := fun o => Lib.frozen_of_heap HE1.out o
    go_wp2_with fail
    refine bodyPost_ret (v := .agg #[.int .i64 7, .int .i64 (-1)]) (by simp [results, Tryz.results45, go_sem, s0, s1]) rfl ⟨by rw [HX.out]; rfl, ?_⟩
    exact put2_below HB1.out (Nat.le_refl _)
  · have q1 : ¬ (100 : Int) < (Q.length : Int) := by have := HLN.out; omega
    have HEN := hid (fun i (hi : i < L.length) W (h : Below w.heap.size w W) => entE_any Q L _ i W hn sh (I.below h) hi)
    have HFO := hid (fun m W (h : Below w.heap.size w W) => findOf_any Q m _ W (by omega) (by have := HLN.out; omega) (I.below h).es)
    have HFN := hid (fun W => fine_any W)
    have HI := hid I
    have HSZ := hid sh
    have H1 := hid h1
    clear I sh h1 hn h0
    go_enter Tryz.func45, Tryz.ntmps45
    go_wp2_with fail
    go_loopw [3] (fun iv wr => ∃ i : Nat, i ≤ Q.length ∧ iv = .int .i64 i ∧ Hid (∀ j, j < i → entE L j = 0) ∧ Hid (Below w.heap.size w wr) ∧ Hid (wr.heap[w.heap.size]? = some (.cells #[.int .i64 0, .int .i64 0] 42 (0, 0)))) (fun iv _ => Q.length - (intOf iv).toNat)
    case atStart => exact ⟨0, Nat.zero_le _, rfl, hid (fun j h => absurd h (Nat.not_lt_zero _)), HB0, HE0⟩
    case round =>
      obtain ⟨i, hi, rfl, HZ, HBr, HEr⟩ := hrel
      by_cases hlt : i < Q.length
      · have hiI : (i : Int) < (Q.length : Int) := by omega
        have HLT := hid hlt
        have hil : i < L.length := by rw [← HLN.out]; exact hlt
        have HE := hid (HEN.out i hil _ HBr.out)
        have HNX := hid (show entE L i = 0 → ∀ j, j < i + 1 → entE L j = 0 from fun h => zero_next HZ.out h)
        have HBD := hid (show entE L i ≠ 0 → chk Q L = (entE L i, some i) from fun h => chk_each H1.out (fstE_some HZ.out h hil))
        generalize entE L i = z at *
        clear hlt hil
        by_cases hz : z = 0
        · subst hz
          have HN2 := hid (HNX.out rfl)
          go_wp2_with fail
          refine HE.out.mono ?_
          rintro e w1 ⟨rfl, hb⟩
          have HB1 := hid (HBr.out.trans (hb.mono HBr.out.size))
          have HE1 := hid ((hb.block _ (lt_of_blk HEr.out)).trans HEr.out)
          clear hb
          go_wp2_with fail
          go_roundw
          case rel => first | exact ⟨i + 1, HLT.out, nr_idx i, HN2, HB1, HE1⟩ | exact ⟨i + 1, HLT.out, nx_idx HLT.out (by omega), HN2, HB1, HE1⟩
          case measure => first | exact nr_meas HLT.out | exact nx_meas HLT.out (by omega)
        · have HX := hid (HBD.out hz)
          have hpos : (0 : Int) < (z : Int) := by omega
          clear hz
          go_wp2_with fail
          refine HE.out.mono ?_
          rintro e w1 ⟨rfl, hb⟩
          have HB1 := hid (HBr.out.trans (hb.mono HBr.out.size))
          have HE1 := hid ((hb.block _ (lt_of_blk HEr.out)).trans HEr.out)
          clear hb
          have s0 : w1.cell? ⟨w.heap.size, 0, none⟩ = some (.int .i64 0) := by rw [Lib.cell_of_heap HE1.out]; rfl
          have s1 : w1.cell? ⟨w.heap.size, 1, none⟩ = some (.int .i64 0) := by rw [Lib.cell_of_heap HE1.out]; rfl
          have tf := fun o => Lib.frozen_of_heap HE1.out o
          go_wp2_with fail
          refine bodyPost_ret (v := .agg #[.int .i64 (z : Int), .int .i64 (i : Int)]) (by simp [results, Tryz.results45, go_sem, s0, s1]) rfl ⟨by rw [HX.out]; rfl, ?_⟩
          exact put2_below HB1.out (Nat.le_refl _)
      · have hiI : ¬ (i : Int) < (Q.length : Int) := by omega
        have HNE := hid (show fstE (entE L) L.length = none from fstE_none fun j hj => HZ.out j (by have := HLN.out; omega))
        have HX0 := hid (chk_reqs (Q := Q) H1.out HNE.out)
        clear hlt HZ HEN
        go_wp2_with fail
        go_loopw [5] (fun iv wr => ∃ i : Nat, i ≤ Q.length ∧ iv = .int .i64 i ∧ Hid (∀ j, j < i → reqE2 Q L j = 0) ∧ Hid (Below w.heap.size w wr) ∧ Hid (wr.heap[w.heap.size]? = some (.cells #[.int .i64 0, .int .i64 0] 42 (0, 0)))) (fun iv _ => Q.length - (intOf iv).toNat)
        case atStart => exact ⟨0, Nat.zero_le _, rfl, hid (fun j h => absurd h (Nat.not_lt_zero _)), HBr, HEr⟩
        case round =>
          obtain ⟨i2, hi2, rfl, HZ2, HB2, HE2⟩ := hrel
          by_cases hqi : i2 < Q.length
          · have hlt : i2 < L.length := by rw [← HLN.out]; exact hqi
            have hiI2 : (i2 : Int) < (Q.length : Int) := by omega
            have hi00 : (0 : Int) ≤ (i2 : Int) := by omega
            have HLI := hid hqi
            have HCE := hid (fun W (h : Below w.heap.size w W) => (es_all (HI.out.below h).es hqi).2.2.2.1)
            have HMR := hid (fun W (h : Below w.heap.size w W) => ((HI.out.below h).ok i2 hqi hlt).rq)
            have HNX := hid (show reqE2 Q L i2 = 0 → ∀ j, j < i2 + 1 → reqE2 Q L j = 0 from fun h => zero_next HZ2.out h)
            have HGD := hid (reqE2_good (Q := Q) hlt)
            have HBD := hid (fun k (hk : k < L[i2].2.1.length) h => show chk Q L = (5, some i2) by
              have h5 := reqE2_bad (Q := Q) hlt hk h
              have hs := fstE_some HZ2.out (by rw [h5]; decide) hlt
              rw [HX0.out, hs, codeE_some hs, h5])
            have hRl := (HSZ.out L[i2] (List.getElem_mem hlt)).rn
            generalize (L[i2]'hlt).2.1 = R at *
            generalize (Q[i2]'hqi).2.1 = rv at *
            obtain ⟨ra, rc, hrv, -⟩ := HMR.out w (Below.refl _ _)
            subst hrv
            clear hlt hqi
            go_wp2_with fail
            go_loopw [6] (fun kv wr => ∃ k : Nat, k ≤ R.length ∧ kv = .int .i64 k ∧ Hid (∀ j (h : j < R.length), j < k → 0 ≤ idxOf (isM R[j]) Q) ∧ Hid (Below w.heap.size w wr) ∧ Hid (wr.heap[w.heap.size]? = some (.cells #[.int .i64 0, .int .i64 0] 42 (0, 0)))) (fun kv _ => R.length - (intOf kv).toNat)
            case atStart => exact ⟨0, Nat.zero_le _, rfl, hid (fun j _ h => absurd h (Nat.not_lt_zero _)), HB2, HE2⟩
            case round =>
              obtain ⟨k, hk, rfl, HZ3, HB3, HE3⟩ := hrel
              have x2 := HCE.out _ HB3.out
              by_cases hlk : k < R.length
              · have hkI : (k : Int) < (R.length : Int) := by omega
                have hk0 : (0 : Int) ≤ (k : Int) := by omega
                obtain ⟨xb, xo, hxa, y0, y1⟩ := (HMR.out _ HB3.out).cells hlk
                subst hxa
                have HLK := hid hlk
                have HF := hid (HFO.out R[k] _ HB3.out)
                have HNK := hid (show 0 ≤ idxOf (isM R[k]) Q → ∀ j (h : j < R.length), j < k + 1 → 0 ≤ idxOf (isM R[j]) Q from fun h0 j h1 h3 => by
                  rcases Nat.lt_or_ge j k with h | h
                  · exact HZ3.out j h1 h
                  · have : j = k := by omega
                    subst this; exact h0)
                have HBK := hid (HBD.out k hlk)
                generalize R[k] = x at *
                obtain ⟨x1, x2'⟩ := x
                generalize idxOf (isM (x1, x2')) Q = ix at *
                clear hlk
                by_cases hix : ix < 0
                · have HX := hid (HBK.out hix)
                  go_wp2_with fail
                  refine HF.out.mono ?_
                  rintro e w1 ⟨rfl, hb⟩
                  have HB4 := hid (HB3.out.trans (hb.mono HB3.out.size))
                  have HE4 := hid ((hb.block _ (lt_of_blk HE3.out)).trans HE3.out)
                  clear hb
                  have s0 : w1.cell? ⟨w.heap.size, 0, none⟩ = some (.int .i64 0) := by rw [Lib.cell_of_heap HE4.out]; rfl
                  have s1 : w1.cell? ⟨w.heap.size, 1, none⟩ = some (.int .i64 0) := by rw [Lib.cell_of_heap HE4.out]; rfl
                  have tf := fun o => Lib.frozen_of_heap HE4.out o
                  go_wp2_with fail
                  refine bodyPost_ret (v := .agg #[.int .i64 5, .int .i64 (i2 : Int)]) (by simp [results, Tryz.results45, go_sem, s0, s1]) rfl ⟨by rw [HX.out]; rfl, ?_⟩
                  exact put2_below HB4.out (Nat.le_refl _)
                · have HN2 := hid (HNK.out (Int.not_lt.1 hix))
                  go_wp2_with fail
                  refine HF.out.mono ?_
                  rintro e w1 ⟨rfl, hb⟩
                  have HB4 := hid (HB3.out.trans (hb.mono HB3.out.size))
                  have HE4 := hid ((hb.block _ (lt_of_blk HE3.out)).trans HE3.out)
                  clear hb
                  go_wp2_with fail
                  go_roundw
                  case rel => first | exact ⟨k + 1, HLK.out, nr_idx k, HN2, HB4, HE4⟩ | exact ⟨k + 1, HLK.out, nx_idx HLK.out hRl, HN2, HB4, HE4⟩
                  case measure => first | exact nr_meas HLK.out | exact nx_meas HLK.out hRl
              · have hkI : ¬ (k : Int) < (R.length : Int) := by omega
                have HN2 := hid (HNX.out (HGD.out (fun j h => HZ3.out j h (by omega))))
                clear hlk
                go_wp2_with fail
                go_roundw
                case rel => first | exact ⟨i2 + 1, HLI.out, nr_idx i2, HN2, HB3, HE3⟩ | exact ⟨i2 + 1, HLI.out, nx_idx HLI.out (by omega), HN2, HB3, HE3⟩
                case measure => first | exact nr_meas HLI.out | exact nx_meas HLI.out (by omega)
          · have hiI2 : ¬ (i2 : Int) < (Q.length : Int) := by omega
            have HX := hid (show chk Q L = (0, none) by
              have hs := fstE_none (E := reqE2 Q L) (n := L.length) (fun j hj => HZ2.out j (by have := HLN.out; omega))
              rw [HX0.out, hs, codeE_none hs])
            clear hqi
            go_wp2_with fail
            refine (HFN.out _).mono ?_
            rintro e w1 ⟨rfl, hb⟩
            have HB4 := hid (HB2.out.trans (hb.mono HB2.out.size))
            have HE4 := hid ((hb.block _ (lt_of_blk HE2.out)).trans HE2.out)
            clear hb
            have s0 : w1.cell? ⟨w.heap.size, 0, none⟩ = some (.int .i64 0) := by rw [Lib.cell_of_heap HE4.out]; rfl
            have s1 : w1.cell? ⟨w.heap.size, 1, none⟩ = some (.int .i64 0) := by rw [Lib.cell_of_heap HE4.out]; rfl
            have tf := fun o => Lib.frozen_of_heap HE4.out o
            go_wp2_with fail
            refine bodyPost_ret (v := .agg #[.int .i64 0, .int .i64 (-1)]) (by simp [results, Tryz.results45, go_sem, s0, s1]) rfl ⟨by rw [HX.out]; rfl, ?_⟩
            exact put2_below HB4.out (Nat.le_refl _)
theorem iFault_none (a : Option Addr) (c : Nat) (w : World) : Calls Tryz.prog 45 #[.slice a 0 c] w fun e w' => e = .returned (faultV (0, none)) ∧ Below w.heap.size w w' := by
  have HB0 := hid ((Below.refl w.heap.size w).alloc (Nat.le_refl _) (.cells #[.int .i64 0, .int .i64 0] 42))
  have HE0 := hid (heap_new w (.cells #[.int .i64 0, .int .i64 0] 42))
  have HFN := hid (fun W => fine_any W)
  go_enter Tryz.func45, Tryz.ntmps45
  go_wp2_with fail
  go_loopw [3] (fun i wr => i = .int .i64 0 ∧ Hid (wr = w.alloc (.cells #[.int .i64 0, .int .i64 0] 42))) (fun i _ => 0)
  case atStart => exact ⟨rfl, hid rfl⟩
  case round =>
    obtain ⟨rfl, HW⟩ := hrel
    obtain rfl := HW.out
    clear HW
    go_wp2_with fail
    go_loopw [5] (fun i wr => i = .int .i64 0 ∧ Hid (wr = w.alloc (.cells #[.int .i64 0, .int .i64 0] 42))) (fun i _ => 0)
    case atStart => exact ⟨rfl, hid rfl⟩
    case round =>
      obtain ⟨rfl, HW⟩ := hrel
      obtain rfl := HW.out
      clear HW
      go_wp2_with fail
      refine (HFN.out _).mono ?_
      rintro e w1 ⟨rfl, hb⟩
      have HB4 := hid (HB0.out.trans (hb.mono HB0.out.size))
      have HE4 := hid ((hb.block _ (lt_of_blk HE0.out)).trans HE0.out)
      clear hb
      have s0 : w1.cell? ⟨w.heap.size, 0, none⟩ = some (.int .i64 0) := by rw [Lib.cell_of_heap HE4.out]; rfl
      have s1 : w1.cell? ⟨w.heap.size, 1, none⟩ = some (.int .i64 0) := by rw [Lib.cell_of_heap HE4.out]; rfl
      have tf := fun o => Lib.frozen_of_heap HE4.out o
      go_wp2_with fail
      refine bodyPost_ret (v := .agg #[.int .i64 0, .int .i64 (-1)]) (by simp [results, Tryz.results45, go_sem, s0, s1]) rfl ⟨rfl, ?_⟩
      exact put2_below HB4.out (Nat.le_refl _)
/-- pewholderref1.IndexFault. -/
theorem iFault_any (Q : List Raw) (L : List Ent) (v : Value) (w : World) (hn : L.length ≤ 1000) (sh : ∀ e, e ∈ L → ShE e) (I : Ixs w v Q L) :
    Calls Tryz.prog 45 #[v] w fun e w' => e = .returned (faultV (chk Q L)) ∧ Below w.heap.size w w' := by
  obtain ⟨a, c, rfl, _, _, h⟩ := id I.es
  by_cases hQ : Q = []
  · subst hQ
    have hl : L = [] := List.length_eq_zero_iff.1 I.ln.symm
    subst hl
    exact iFault_none a c w
  · obtain ⟨b, o, rfl, _⟩ := h hQ
    exact iFault_some Q L b o c w hn sh I (by rw [← I.ln]; exact List.length_pos_iff.2 hQ)
end Ve
end Go.Proofs.YtjhiajeeijfkeaaGreatDoor

/-
  What the document's answer says of roots that may be no entries (rootsFault).
-/
namespace Go.Proofs.YtjhiajeeijfkeaaGreatDoor
open Go.RowKit Go.Maps
namespace Ve

theorem findOf_none (a : Option Addr) (c : Nat) (m : Bm) (w : World) : Calls Tryz.prog 23 #[.slice a 0 c, .agg #[.string m.1, .string m.2]] w fun e w' => e = .returned (.int .i64 (-1)) ∧ Below w.heap.size w w' := by
  have HB0 := hid ((Below.refl w.heap.size w).alloc (Nat.le_refl _) (.cells #[.string m.1, .string m.2] 36))
  go_enter Tryz.func23, Tryz.ntmps23
  go_wp2_with fail
  go_loopw [5] (fun i wr => i = .int .i64 0 ∧ Hid (Below w.heap.size w wr)) (fun i _ => 0)
  case atStart => exact ⟨rfl, HB0⟩
  case round =>
    obtain ⟨rfl, HB⟩ := hrel
    go_wp2_with fail
    go_ret
    exact ⟨rfl, HB.out⟩
/-- pewholderref1.FindOf. -/
theorem findOf_all (Q : List Raw) (m : Bm) (v : Value) (w : World) (hL : Q.length ≤ 1000000) (hv : EsAt w v Q) :
    Calls Tryz.prog 23 #[v, .agg #[.string m.1, .string m.2]] w fun e w' => e = .returned (.int .i64 (idxOf (isM m) Q)) ∧ Below w.heap.size w w' := by
  by_cases hQ : Q = []
  · subst hQ
    obtain ⟨a, c, rfl, _⟩ := hv
    exact findOf_none a c m w
  · exact findOf_any Q m v w hL (List.length_pos_iff.2 hQ) hv
theorem nonE_bad {Q : List Raw} {R : List Bm} {k : Nat} (hk : k < R.length) (h0 : ∀ j (h : j < R.length), j < k → 0 ≤ idxOf (isM R[j]) Q) (h : idxOf (isM R[k]) Q < 0) : (codeE (nonE Q R) R.length, fstE (nonE Q R) R.length) = (5, some k) := by
  have hz : ∀ j, j < k → nonE Q R j = 0 := fun j hj => by
    rw [nonE_at (by omega)]
    unfold nonW
    rw [if_neg (Int.not_lt.2 (h0 j (by omega) hj))]
  have h5 : nonE Q R k = 5 := by
    rw [nonE_at hk]
    unfold nonW
    rw [if_pos h]
  have hs := fstE_some hz (by rw [h5]; decide) hk
  rw [codeE_some hs, hs, h5]
theorem nonE_good {Q : List Raw} {R : List Bm} (h0 : ∀ j (h : j < R.length), 0 ≤ idxOf (isM R[j]) Q) : (codeE (nonE Q R) R.length, fstE (nonE Q R) R.length) = (0, none) := by
  have hs : fstE (nonE Q R) R.length = none := fstE_none fun j hj => by
    rw [nonE_at hj]
    unfold nonW
    rw [if_neg (Int.not_lt.2 (h0 j hj))]
  rw [codeE_none hs, hs]
set_option maxRecDepth 100000 in
set_option maxHeartbeats 4000000 in
/-- pewholderref2.rootsFault. -/
theorem rFault_any (Q : List Raw) (R : List Bm) (v rv : Value) (w : World) (hn : Q.length ≤ 1000) (hR : R.length ≤ 1000000) (hv : EsAt w v Q) (hr : MsAt w rv R) :
    Calls Tryz.prog 47 #[v, rv] w fun e w' => e = .returned (faultV (codeE (nonE Q R) R.length, fstE (nonE Q R) R.length)) ∧ Below w.heap.size w w' := by
  have HB0 := hid ((Below.refl w.heap.size w).alloc (Nat.le_refl _) (.cells #[.int .i64 0, .int .i64 0] 42))
  have HE0 := hid (heap_new w (.cells #[.int .i64 0, .int .i64 0] 42))
  have HFO := hid (fun m W (h : Below w.heap.size w W) => findOf_all Q m v W (by omega) (hv.below h))
  have HFN := hid (fun W => fine_any W)
  have HMR := hid (fun W (h : Below w.heap.size w W) => hr.below h)
  have HGD := hid (nonE_good (Q := Q) (R := R))
  have HBD := hid (fun k (hk : k < R.length) h0 h => nonE_bad (Q := Q) hk h0 h)
  obtain ⟨a, c, hv1, -⟩ := id hv
  subst hv1
  obtain ⟨ra, rc, hrv, -⟩ := id hr
  subst hrv
  generalize (codeE (nonE Q R) R.length, fstE (nonE Q R) R.length) = ans at *
  clear hv hr
  go_enter Tryz.func47, Tryz.ntmps47
  go_wp2_with fail
  go_loopw [5] (fun kv wr => ∃ k : Nat, k ≤ R.length ∧ kv = .int .i64 k ∧ Hid (∀ j (h : j < R.length), j < k → 0 ≤ idxOf (isM R[j]) Q) ∧ Hid (Below w.heap.size w wr) ∧ Hid (wr.heap[w.heap.size]? = some (.cells #[.int .i64 0, .int .i64 0] 42 (0, 0)))) (fun kv _ => R.length - (intOf kv).toNat)
  case atStart => exact ⟨0, Nat.zero_le _, rfl, hid (fun j _ h => absurd h (Nat.not_lt_zero _)), HB0, HE0⟩
  case round =>
    obtain ⟨k, hk, rfl, HZ3, HB3, HE3⟩ := hrel
    by_cases hlk : k < R.length
    · have hkI : (k : Int) < (R.length : Int) := by omega
      have hk0 : (0 : Int) ≤ (k : Int) := by omega
      obtain ⟨xb, xo, hxa, y0, y1⟩ := (HMR.out _ HB3.out).cells hlk
      subst hxa
      have HLK := hid hlk
      have HF := hid (HFO.out R[k] _ HB3.out)
      have HNK := hid (show 0 ≤ idxOf (isM R[k]) Q → ∀ j (h : j < R.length), j < k + 1 → 0 ≤ idxOf (isM R[j]) Q from fun h0 j h1 h3 => by
        rcases Nat.lt_or_ge j k with h | h
        · exact HZ3.out j h1 h
        · have : j = k := by omega
          subst this; exact h0)
      have HBK := hid (HBD.out k hlk HZ3.out)
      generalize R[k] = x at *
      obtain ⟨x1, x2'⟩ := x
      generalize idxOf (isM (x1, x2')) Q = ix at *
      clear hlk
      by_cases hix : ix < 0
      · have HX := hid (HBK.out hix)
        go_wp2_with fail
        refine HF.out.mono ?_
        rintro e w1 ⟨rfl, hb⟩
        have HB4 := hid (HB3.out.trans (hb.mono HB3.out.size))
        have HE4 := hid ((hb.block _ (lt_of_blk HE3.out)).trans HE3.out)
        clear hb
        have s0 : w1.cell? ⟨w.heap.size, 0, none⟩ = some (.int .i64 0) := by rw [Lib.cell_of_heap HE4.out]; rfl
        have s1 : w1.cell? ⟨w.heap.size, 1, none⟩ = some (.int .i64 0) := by rw [Lib.cell_of_heap HE4.out]; rfl
        have tf := fun o => Lib.frozen_of_heap HE4.out o
        go_wp2_with fail
        refine bodyPost_ret (v := .agg #[.int .i64 5, .int .i64 (k : Int)]) (by simp [results, Tryz.results47, go_sem, s0, s1]) rfl ⟨by rw [HX.out]; rfl, ?_⟩
        exact put2_below HB4.out (Nat.le_refl _)
      · have HN2 := hid (HNK.out (Int.not_lt.1 hix))
        go_wp2_with fail
        refine HF.out.mono ?_
        rintro e w1 ⟨rfl, hb⟩
        have HB4 := hid (HB3.out.trans (hb.mono HB3.out.size))
        have HE4 := hid ((hb.block _ (lt_of_blk HE3.out)).trans HE3.out)
        clear hb
        go_wp2_with fail
        go_roundw
        case rel => first | exact ⟨k + 1, HLK.out, nr_idx k, HN2, HB4, HE4⟩ | exact ⟨k + 1, HLK.out, nx_idx HLK.out hR, HN2, HB4, HE4⟩
        case measure => first | exact nr_meas HLK.out | exact nx_meas HLK.out hR
    · have hkI : ¬ (k : Int) < (R.length : Int) := by omega
      have HX := hid (HGD.out (fun j h => HZ3.out j h (by omega)))
      clear hlk
      go_wp2_with fail
      refine (HFN.out _).mono ?_
      rintro e w1 ⟨rfl, hb⟩
      have HB4 := hid (HB3.out.trans (hb.mono HB3.out.size))
      have HE4 := hid ((hb.block _ (lt_of_blk HE3.out)).trans HE3.out)
      clear hb
      have s0 : w1.cell? ⟨w.heap.size, 0, none⟩ = some (.int .i64 0) := by rw [Lib.cell_of_heap HE4.out]; rfl
      have s1 : w1.cell? ⟨w.heap.size, 1, none⟩ = some (.int .i64 0) := by rw [Lib.cell_of_heap HE4.out]; rfl
      have tf := fun o => Lib.frozen_of_heap HE4.out o
      go_wp2_with fail
      refine bodyPost_ret (v := .agg #[.int .i64 0, .int .i64 (-1)]) (by simp [results, Tryz.results47, go_sem, s0, s1]) rfl ⟨by rw [HX.out]; rfl, ?_⟩
      exact put2_below HB4.out (Nat.le_refl _)
end Ve
end Go.Proofs.YtjhiajeeijfkeaaGreatDoor

/-
  The document's marks and how far one is off, plain.
-/
namespace Go.Proofs.YtjhiajeeijfkeaaGreatDoor
namespace Ve

/-- How many are not marked. -/
def unm : List Bool → Nat
  | [] => 0
  | true :: l => unm l
  | false :: l => unm l + 1
theorem unm_set : ∀ (O : List Bool) (a : Nat) (h : a < O.length), O[a] = false → unm (O.set a true) + 1 = unm O
  | [], _, h, _ => absurd h (Nat.not_lt_zero _)
  | b :: O, 0, _, e => by
    have : b = false := e
    subst this
    rfl
  | b :: O, a + 1, h, e => by
    have ih := unm_set O a (by simpa using h) (by simpa using e)
    rw [List.set_cons_succ]
    cases b
    · show unm (O.set a true) + 1 + 1 = unm O + 1
      omega
    · exact ih
/-- Marks that are right. -/
structure Mk (req : Bm → List Bm) (U roots : List Bm) (O : List Bool) : Prop where
  ln : O.length = U.length
  so : ∀ i (h : i < U.length) (h' : i < O.length), O[i] = true → Rch req roots U[i]
theorem Mk.none (req : Bm → List Bm) (U roots : List Bm) : Mk req U roots (List.replicate U.length false) :=
  ⟨by simp, fun i h h' e => by rw [List.getElem_replicate] at e; cases e⟩
theorem Mk.set {req : Bm → List Bm} {U roots : List Bm} {O : List Bool} (h : Mk req U roots O) {a : Nat} (ha : a < U.length) (hr : Rch req roots U[a]) : Mk req U roots (O.set a true) := by
  refine ⟨by rw [List.length_set]; exact h.ln, fun i hi hi' e => ?_⟩
  by_cases hia : a = i
  · subst hia; exact hr
  · rw [List.getElem_set_ne hia] at e
    exact h.so i hi (by rw [h.ln]; exact hi) e
/-- Is it marked? -/
def At1 (U : List Bm) (O : List Bool) (m : Bm) : Prop := ∃ a, ∃ h : a < U.length, ∃ h' : a < O.length, U[a] = m ∧ O[a] = true
theorem At1.set {U : List Bm} {O : List Bool} {m : Bm} (h : At1 U O m) (a : Nat) : At1 U (O.set a true) m := by
  obtain ⟨k, hk, hk', e1, e2⟩ := h
  refine ⟨k, hk, by rw [List.length_set]; exact hk', e1, ?_⟩
  by_cases hka : a = k
  · subst hka; rw [List.getElem_set_self]
  · rw [List.getElem_set_ne hka]; exact e2
theorem At1.new {U : List Bm} {O : List Bool} {a : Nat} (ha : a < U.length) (hl : O.length = U.length) : At1 U (O.set a true) U[a] :=
  ⟨a, ha, by rw [List.length_set, hl]; exact ha, rfl, by rw [List.getElem_set_self]⟩
/-- What those below i require is marked. -/
def Cl1 (req : Bm → List Bm) (U : List Bm) (O : List Bool) (i : Nat) : Prop := ∀ j (h : j < U.length) (h' : j < O.length), j < i → O[j] = true → ∀ m, m ∈ req U[j] → At1 U O m
theorem Mk.iff {req : Bm → List Bm} {U roots : List Bm} {O : List Bool} (h : Mk req U roots O) (hn : U.Nodup) (hr : ∀ m, m ∈ roots → At1 U O m) (hc : Cl1 req U O U.length) {i : Nat} (hi : i < U.length) (hi' : i < O.length) : O[i] = true ↔ Rch req roots U[i] := by
  refine ⟨h.so i hi hi', fun hR => ?_⟩
  have all : ∀ m, Rch req roots m → At1 U O m := fun m hm => by
    induction hm with
    | root hm => exact hr _ hm
    | step _ hm ih =>
      obtain ⟨a, ha, ha', e1, e2⟩ := ih
      rw [← e1] at hm
      exact hc a ha ha' ha e2 _ hm
  obtain ⟨a, ha, ha', e1, e2⟩ := all _ hR
  have hp := List.pairwise_iff_getElem.1 hn
  have : a = i := by
    rcases Nat.lt_trichotomy a i with h1 | h1 | h1
    · exact absurd e1 (hp a i ha hi h1)
    · exact h1
    · exact absurd e1.symm (hp i a hi ha h1)
  subst this
  exact e2
/-- One that is reached has a shortest way. -/
theorem rch_wn {req : Bm → List Bm} {roots : List Bm} {m : Bm} (h : Rch req roots m) : ∃ n, Wn req roots n m := by
  induction h with
  | root hr => exact ⟨1, .root hr⟩
  | step _ hr ih => obtain ⟨n, hn⟩ := ih; exact ⟨n + 1, .step hn hr⟩
theorem wn_dst {req : Bm → List Bm} {roots : List Bm} {m : Bm} : ∀ (n : Nat), Wn req roots n m → ∃ d, Dst req roots m d := fun n => by
  induction n using Nat.strongRecOn with
  | ind n ih =>
    intro h
    by_cases hs : ∃ k, k < n ∧ Wn req roots k m
    · obtain ⟨k, hk, hw⟩ := hs
      exact ih k hk hw
    · exact ⟨n, h, fun k hk => Nat.le_of_not_lt fun hlt => hs ⟨k, hlt, hk⟩⟩
theorem Dst.row {req : Bm → List Bm} {roots : List Bm} : ∀ {d : Nat} {m : Bm}, Dst req roots m d → ∃ Y : List Bm, Y.length = d ∧ Y.Nodup ∧ ∀ y, y ∈ Y → ∃ k, k ≤ d ∧ Dst req roots y k
  | 0, m, h => absurd h.1.pos (by omega)
  | d + 1, m, h => by
    have hs := h
    obtain ⟨hw, hm⟩ := h
    cases hw with
    | root hr => exact ⟨[m], rfl, by simp, fun y hy => by rw [List.mem_singleton] at hy; subst hy; exact ⟨_, Nat.le_refl _, hs⟩⟩
    | @step _ p _ hp hr =>
      have hd : Dst req roots p d := ⟨hp, fun k hk => by have := hm _ (.step hk hr); omega⟩
      obtain ⟨Y, h1, h2, h3⟩ := Dst.row hd
      refine ⟨m :: Y, by simp [h1], List.nodup_cons.2 ⟨fun hmem => ?_, h2⟩, fun y hy => ?_⟩
      · obtain ⟨k, hk, hk2⟩ := h3 m hmem
        have := hk2.one hs
        omega
      · rcases List.mem_cons.1 hy with rfl | hy
        · exact ⟨_, Nat.le_refl _, hs⟩
        · obtain ⟨k, hk, hk2⟩ := h3 y hy
          exact ⟨k, by omega, hk2⟩
theorem Dst.le {req : Bm → List Bm} {roots U : List Bm} (hU : ∀ m, Rch req roots m → m ∈ U) {d : Nat} {m : Bm} (h : Dst req roots m d) : d ≤ U.length := by
  obtain ⟨Y, h1, h2, h3⟩ := h.row
  rw [← h1]
  exact nd_len Y U h2 fun y hy => by
    obtain ⟨_, _, hk⟩ := h3 y hy
    exact hU y hk.1.rch
/-- How far, as far as n: in the breadth n, those below i done, and of the one at i the first of R. -/
structure Fr (req : Bm → List Bm) (U roots : List Bm) (n i : Nat) (F : List Nat) : Prop where
  ln : F.length = U.length
  so : ∀ j (h : j < U.length) (h' : j < F.length), F[j] ≠ 0 → Wn req roots F[j] U[j]
  bd : ∀ j (h' : j < F.length), F[j] ≤ n + 1
  lo : ∀ d j (h : j < U.length) (h' : j < F.length), d ≤ n → Wn req roots d U[j] → F[j] ≠ 0 ∧ F[j] ≤ d
  dn : ∀ j (h : j < U.length) (h' : j < F.length), j < i → F[j] = n → ∀ m, m ∈ req U[j] → ∃ a, ∃ h : a < U.length, ∃ h' : a < F.length, U[a] = m ∧ F[a] ≠ 0
theorem Fr.none (req : Bm → List Bm) (U roots : List Bm) : Fr req U roots 0 0 (List.replicate U.length 0) :=
  ⟨by simp, fun j _ _ e => by rw [List.getElem_replicate] at e; exact absurd rfl e, fun j _ => by rw [List.getElem_replicate]; omega, fun d j _ _ hd hw => absurd hw.pos (by omega), fun _ _ _ h => absurd h (Nat.not_lt_zero _)⟩
/-- One that was not come to. -/
theorem Fr.set {req : Bm → List Bm} {U roots : List Bm} {n i : Nat} {F : List Nat} (h : Fr req U roots n i F) {a : Nat} (ha : a < U.length) (ha' : a < F.length) (e0 : F[a] = 0) (hw : Wn req roots (n + 1) U[a]) : Fr req U roots n i (F.set a (n + 1)) := by
  refine ⟨by rw [List.length_set]; exact h.ln, fun j hj hj' e => ?_, fun j hj' => ?_, fun d j hj hj' hd hwn => ?_, fun j hj hj' hji e m hm => ?_⟩
  · by_cases hja : a = j
    · subst hja; rw [List.getElem_set_self]; exact hw
    · rw [List.getElem_set_ne hja] at e ⊢
      exact h.so j hj _ e
  · by_cases hja : a = j
    · subst hja; rw [List.getElem_set_self]; exact Nat.le_refl _
    · rw [List.getElem_set_ne hja]; exact h.bd j _
  · have h1 := h.lo d j hj (by rw [h.ln]; exact hj) hd hwn
    by_cases hja : a = j
    · subst hja; exact absurd e0 h1.1
    · rw [List.getElem_set_ne hja]; exact h1
  · have hja : a ≠ j := fun hja => by subst hja; rw [List.getElem_set_self] at e; omega
    rw [List.getElem_set_ne hja] at e
    obtain ⟨t, ht, ht', e1, e2⟩ := h.dn j hj (by rw [h.ln]; exact hj) hji e m hm
    refine ⟨t, ht, by rw [List.length_set]; exact ht', e1, ?_⟩
    have hta : a ≠ t := fun hta => by subst hta; exact e2 e0
    rw [List.getElem_set_ne hta]; exact e2
/-- A root, be it there before or not. -/
theorem Fr.root {req : Bm → List Bm} {U roots : List Bm} {F : List Nat} (h : Fr req U roots 0 0 F) {a : Nat} (ha : a < U.length) (hr : U[a] ∈ roots) : Fr req U roots 0 0 (F.set a 1) := by
  have ha' : a < F.length := by rw [h.ln]; exact ha
  by_cases e0 : F[a] = 0
  · exact h.set ha ha' e0 (.root hr)
  · have e1 : F[a] = 1 := by have := h.bd a ha'; omega
    have : F.set a 1 = F := by rw [← e1]; exact List.set_getElem_self ha'
    rw [this]; exact h
/-- From the roots to the first breadth. -/
theorem Fr.first {req : Bm → List Bm} {U roots : List Bm} {F : List Nat} (h : Fr req U roots 0 0 F) (hr : ∀ j (_ : j < U.length) (h' : j < F.length), U[j] ∈ roots → F[j] ≠ 0) : Fr req U roots 1 0 F := by
  refine ⟨h.ln, h.so, fun j hj => Nat.le_succ_of_le (h.bd j hj), fun d j hj hj' hd hw => ?_, fun _ _ _ hh => absurd hh (Nat.not_lt_zero _)⟩
  have hb := h.bd j hj'
  have hp := hw.pos
  have : d = 1 := by omega
  subst this
  cases hw with
  | root hm => exact ⟨hr j hj hj' hm, hb⟩
  | step hq _ => exact absurd hq.pos (by omega)
/-- One more of those of a breadth is done. -/
theorem Fr.next {req : Bm → List Bm} {U roots : List Bm} {n i : Nat} {F : List Nat} (h : Fr req U roots n i F) (hd : ∀ (hi : i < U.length) (hi' : i < F.length), F[i] = n → ∀ m, m ∈ req U[i] → ∃ a, ∃ h : a < U.length, ∃ h' : a < F.length, U[a] = m ∧ F[a] ≠ 0) : Fr req U roots n (i + 1) F :=
  ⟨h.ln, h.so, h.bd, h.lo, fun j hj hj' hji e m hm => by
    rcases Nat.lt_or_ge j i with h1 | h1
    · exact h.dn j hj hj' h1 e m hm
    · have : j = i := by omega
      subst this
      exact hd hj hj' e m hm⟩
/-- The next breadth. -/
theorem Fr.turn {req : Bm → List Bm} {U roots : List Bm} {n : Nat} {F : List Nat} (h : Fr req U roots n U.length F) (hn : 1 ≤ n) (hN : U.Nodup) (hU : ∀ m, Rch req roots m → m ∈ U) : Fr req U roots (n + 1) 0 F := by
  refine ⟨h.ln, h.so, fun j hj => Nat.le_succ_of_le (h.bd j hj), fun d j hj hj' hd hw => ?_, fun _ _ _ hh => absurd hh (Nat.not_lt_zero _)⟩
  rcases Nat.lt_or_ge n d with h1 | h1
  · have : d = n + 1 := by omega
    subst this
    generalize hm : U[j] = m at hw
    cases hw with
    | root hr => omega
    | @step _ p _ hp hr =>
      obtain ⟨k, hk, rfl⟩ := List.getElem_of_mem (hU p hp.rch)
      have hk' : k < F.length := by rw [h.ln]; exact hk
      obtain ⟨q1, q2⟩ := h.lo n k hk hk' (Nat.le_refl _) hp
      rcases Nat.lt_or_ge F[k] n with h2 | h2
      · have := h.lo (F[k] + 1) j hj hj' h2 (by rw [hm]; exact .step (h.so k hk hk' q1) hr)
        exact ⟨this.1, by omega⟩
      · obtain ⟨a, ha, ha', e1, e2⟩ := h.dn k hk hk' hk (by omega) m hr
        have hp2 := List.pairwise_iff_getElem.1 hN
        have : a = j := by
          rcases Nat.lt_trichotomy a j with h1 | h1 | h1
          · exact absurd (e1.trans hm.symm) (hp2 a j ha hj h1)
          · exact h1
          · exact absurd (hm.trans e1.symm) (hp2 j a hj ha h1)
        subst this
        exact ⟨e2, h.bd a ha'⟩
  · exact h.lo d j hj hj' h1 hw
/-- At the end. -/
theorem Fr.zero {req : Bm → List Bm} {U roots : List Bm} {n i : Nat} {F : List Nat} (h : Fr req U roots n i F) (hn : U.length ≤ n) (hU : ∀ m, Rch req roots m → m ∈ U) {j : Nat} (hj : j < U.length) (hj' : j < F.length) : F[j] = 0 ↔ ¬ Rch req roots U[j] := by
  constructor
  · intro e hR
    obtain ⟨k, hk⟩ := rch_wn hR
    obtain ⟨d, hd⟩ := wn_dst k hk
    exact (h.lo d j hj hj' (Nat.le_trans (hd.le hU) hn) hd.1).1 e
  · intro hR
    by_cases e : F[j] = 0
    · exact e
    · exact absurd (h.so j hj hj' e).rch hR
theorem Fr.dst {req : Bm → List Bm} {U roots : List Bm} {n i : Nat} {F : List Nat} (h : Fr req U roots n i F) (hn : U.length ≤ n) (hU : ∀ m, Rch req roots m → m ∈ U) {j : Nat} (hj : j < U.length) (hj' : j < F.length) (e : F[j] ≠ 0) : Dst req roots U[j] F[j] := by
  have hw := h.so j hj hj' e
  obtain ⟨d, hd⟩ := wn_dst _ hw
  have := (h.lo d j hj hj' (Nat.le_trans (hd.le hU) hn) hd.1).2
  have h2 := hd.2 _ hw
  rw [show F[j] = d by omega]
  exact hd
end Ve
end Go.Proofs.YtjhiajeeijfkeaaGreatDoor

/-
  What the document's answer marks as reached (marks).
-/
namespace Go.Proofs.YtjhiajeeijfkeaaGreatDoor
open Go.RowKit Go.Maps
namespace Ve

theorem infoBool : (Tryz.prog.info? 4).map (fun i => (i.zero, i.size, i.bytes)) = some (some (.bool false), 1, 1) := by kernel_rfl
/-- Marks in memory. -/
def bwc (O : List Bool) : Array Value := (O.map Value.bool).toArray
theorem bwc_set (O : List Bool) (a : Nat) : (bwc O).setIfInBounds a (.bool true) = bwc (O.set a true) := by
  unfold bwc
  rw [List.setIfInBounds_toArray, List.map_set]
theorem bwc_at {W : World} {g : Nat} {O : List Bool} (h : W.heap[g]? = some (.cells (bwc O) 4 (0, 0))) {a : Nat} (ha : a < O.length) : W.cell? ⟨g, a, none⟩ = some (.bool O[a]) := by
  rw [Lib.cell_of_heap h]
  simp [bwc, ha]
theorem made_bools (n : Nat) : madeCells (Value.bool false).cells n = bwc (List.replicate n false) := by
  unfold madeCells bwc
  simp [Value.cells]
  apply Array.ext
  · simp
  · intro i h1 h2
    simp [Nat.mod_one]
theorem make_bools (n : Nat) (w : World) (hn : n ≤ 1000000) : (Instr.makeSlice 44 (.int .i64 (n : Int)) (.int .i64 (n : Int))).run Tryz.prog w = .ok (.slice (some ⟨w.heap.size, 0, none⟩) n n) (w.alloc (.cells (bwc (List.replicate n false)) 4)) := by
  obtain ⟨i0, hi, hz0, hz1, hz2⟩ := info_parts infoBool
  have h := run_makeSlice (P := Tryz.prog) w 44 4 i0 (.bool false) Tryz.underlying44 hi hz0 .i64 .i64 (n : Int) (n : Int) (by omega) (by omega) (by rw [hz1]; simp; omega) (by rw [hz2]; omega) (by omega)
  rw [hz1] at h
  simp only [Int.toNat_natCast, Nat.mul_one] at h
  rw [made_bools] at h
  exact h
def unmV : List Value → Nat
  | [] => 0
  | .bool false :: l => unmV l + 1
  | _ :: l => unmV l
theorem unmV_is : ∀ O : List Bool, unmV (O.map Value.bool) = unm O
  | [] => rfl
  | true :: O => by show unmV (O.map Value.bool) = unm O; exact unmV_is O
  | false :: O => by show unmV (O.map Value.bool) + 1 = unm O + 1; rw [unmV_is O]
def unmW : Option Obj → Nat
  | some (.cells cs _ _) => unmV cs.toList
  | _ => 0
theorem unmW_is {W : World} {g : Nat} {O : List Bool} (h : W.heap[g]? = some (.cells (bwc O) 4 (0, 0))) : unmW W.heap[g]? = unm O := by
  rw [h]
  show unmV (bwc O).toList = unm O
  unfold bwc
  rw [List.toList_toArray, unmV_is]
def measM (ag : Value) (o : Option Obj) : Nat := match ag with
  | .bool false => 0
  | _ => unmW o + 1
/-- The marks, as far as they are made. -/
structure Mks (w W : World) (Q : List Raw) (L : List Ent) (roots : List Bm) (O : List Bool) : Prop where
  bl : Below w.heap.size w W
  hp : W.heap[w.heap.size]? = some (.cells (bwc O) 4 (0, 0))
  ok : Mk (reqQ Q L) (univ L) roots O
theorem Mks.below {w W W' : World} {Q : List Raw} {L : List Ent} {roots : List Bm} {O : List Bool} (h : Mks w W Q L roots O) (hb : Below W.heap.size W W') : Mks w W' Q L roots O :=
  ⟨h.bl.trans (hb.mono h.bl.size), (hb.block _ (lt_of_blk h.hp)).trans h.hp, h.ok⟩
theorem Mks.set {w W : World} {Q : List Raw} {L : List Ent} {roots : List Bm} {O : List Bool} (h : Mks w W Q L roots O) {a : Nat} (ha : a < (univ L).length) (hr : Rch (reqQ Q L) roots (univ L)[a]) : Mks w (W.setCell ⟨w.heap.size, a, none⟩ (.bool true)) Q L roots (O.set a true) :=
  ⟨h.bl.setCell (Nat.le_refl _) _, by rw [set_block h.hp, bwc_set], h.ok.set ha hr⟩
theorem idx_univ {w : World} {v : Value} {Q : List Raw} {L : List Ent} (I : Ixs w v Q L) {m : Bm} (hm : m ∈ univ L) : ∃ k, ∃ hk : k < (univ L).length, idxOf (isM m) Q = (k : Int) ∧ (univ L)[k] = m := by
  obtain ⟨k, hk⟩ := (found_iff I m).1 hm
  obtain ⟨h1, h2⟩ := idx_is hk
  have h3 : k < L.length := by rw [← I.ln]; exact h1
  refine ⟨k, by simpa [univ] using h3, hk, ?_⟩
  have := of_decide_eq_true h2
  simp only [univ, List.getElem_map]
  rw [← (I.ok k h1 h3).m]
  exact Prod.ext this.1 this.2
theorem univ_nd {Q : List Raw} {L : List Ent} (h : (chk Q L).1 = 0) : (univ L).Nodup :=
  (univ_rises h).imp fun {a b} h e => by subst e; rw [mAhead_irr] at h; cases h
theorem req_at {w : World} {v : Value} {Q : List Raw} {L : List Ent} (I : Ixs w v Q L) (h : (chk Q L).1 = 0) {i : Nat} (hi : i < L.length) (hi' : i < (univ L).length) : reqQ Q L (univ L)[i] = L[i].2.1 := by
  obtain ⟨k, hk, e1, e2⟩ := idx_univ I (List.getElem_mem hi')
  have hki : k = i := by
    have hp := List.pairwise_iff_getElem.1 (univ_nd h)
    rcases Nat.lt_trichotomy k i with h1 | h1 | h1
    · exact absurd e2 (hp k i hk hi' h1)
    · exact h1
    · exact absurd e2.symm (hp i k hi' hk h1)
  subst hki
  exact reqQ_at e1 hi
set_option maxRecDepth 100000 in
set_option maxHeartbeats 8000000 in
/-- pewholderref2.marks. -/
theorem marks_any (Q : List Raw) (L : List Ent) (roots : List Bm) (v rv : Value) (w : World) (hn : L.length ≤ 1000) (hrn : roots.length ≤ 1000000) (sh : ∀ e, e ∈ L → ShE e) (I : Ixs w v Q L) (hr : MsAt w rv roots) (h0 : (chkG Q L roots).1 = 0) :
    Calls Tryz.prog 46 #[v, rv] w fun e w' => ∃ O : List Bool, e = .returned (.slice (some ⟨w.heap.size, 0, none⟩) Q.length Q.length) ∧ Mks w w' Q L roots O ∧ ∀ i (hi : i < (univ L).length) (hi' : i < O.length), O[i] = true ↔ Rch (reqQ Q L) roots (univ L)[i] := by
  have HLN := hid I.ln
  have hqn : Q.length ≤ 1000 := by rw [I.ln]; exact hn
  have HUL := hid (show (univ L).length = Q.length by rw [I.ln]; simp [univ])
  have HC := hid (rgt_of I h0).c
  have HRU := hid (rgt_of I h0).r
  have HFO := hid (fun m W (h : Below w.heap.size w W) => findOf_all Q m v W (by omega) (I.below h).es)
  have HIU := hid (fun m (hm : m ∈ univ L) => idx_univ I hm)
  have HMR := hid (fun W (h : Below w.heap.size w W) => hr.below h)
  have HI := hid I
  have HSZ := hid sh
  have HB0 := hid (show Mks w (w.alloc (.cells (bwc (List.replicate Q.length false)) 4)) Q L roots (List.replicate Q.length false) from ⟨(Below.refl w.heap.size w).alloc (Nat.le_refl _) _, heap_new w _, by rw [← HUL.out]; exact Mk.none _ _ _⟩)
  obtain ⟨a, c, hv1, -⟩ := id I.es
  subst hv1
  obtain ⟨ra, rc, hrv, -⟩ := id hr
  subst hrv
  have hmk := make_bools Q.length w (by omega)
  clear I hr sh h0 hn
  go_enter Tryz.func46, Tryz.ntmps46
  go_wp2_with fail
  clear hmk
  go_loopw [6] (fun iv wr => ∃ k : Nat, k ≤ roots.length ∧ iv = .int .i64 k ∧ Hid (∃ O, Mks w wr Q L roots O ∧ ∀ j (h : j < roots.length), j < k → At1 (univ L) O roots[j])) (fun iv _ => roots.length - (intOf iv).toNat)
  case atStart => exact ⟨0, Nat.zero_le _, rfl, hid ⟨_, HB0.out, fun j _ h => absurd h (Nat.not_lt_zero _)⟩⟩
  case round =>
    obtain ⟨k, hk, rfl, HO⟩ := hrel
    obtain ⟨O, hO, hAt⟩ := HO.out
    by_cases hlt : k < roots.length
    · have hkI : (k : Int) < (roots.length : Int) := by omega
      have hk0 : (0 : Int) ≤ (k : Int) := by omega
      obtain ⟨xb, xo, hxa, y0, y1⟩ := (HMR.out _ hO.bl).cells hlt
      subst hxa
      obtain ⟨n, hnU, e1, e2⟩ := HIU.out roots[k] (HRU.out _ (List.getElem_mem hlt))
      have HF := hid (HFO.out roots[k] _ hO.bl)
      rw [e1] at HF
      have hnq : n < Q.length := by rw [← HUL.out]; exact hnU
      have hnI : (n : Int) < (Q.length : Int) := by omega
      have hn0 : (0 : Int) ≤ (n : Int) := by omega
      have HLT := hid hlt
      have hOl : O.length = (univ L).length := hO.ok.ln
      have HNX := hid (fun W (hb : Below wr.heap.size wr W) => show ∃ O', Mks w (W.setCell ⟨w.heap.size, n, none⟩ (.bool true)) Q L roots O' ∧ ∀ j (h : j < roots.length), j < k + 1 → At1 (univ L) O' roots[j] from ⟨O.set n true, (hO.below hb).set hnU (by rw [e2]; exact .root (List.getElem_mem hlt)), fun j h1 h2 => by
        rcases Nat.lt_or_ge j k with h | h
        · exact (hAt j h1 h).set n
        · have : j = k := by omega
          subst this
          rw [← e2]; exact At1.new hnU hOl⟩)
      have HCE := hid (fun W (hb : Below wr.heap.size wr W) => show W.cell? ⟨w.heap.size, n, none⟩ = some (.bool (O[n]'(by rw [hOl]; exact hnU))) ∧ ∀ o, W.frozen? ⟨w.heap.size, o, none⟩ = false from ⟨bwc_at (hO.below hb).hp _, fun o => Lib.frozen_of_heap (hO.below hb).hp o⟩)
      generalize (O[n]'(by rw [hOl]; exact hnU)) = bo at *
      generalize roots[k] = x at *
      obtain ⟨x1, x2⟩ := x
      clear hlt e1 e2 hO hAt hOl HO hnU
      go_wp2_with fail
      refine HF.out.mono ?_
      rintro e w1 ⟨rfl, hb⟩
      obtain ⟨z0, zf⟩ := HCE.out w1 hb
      have HN2 := hid (HNX.out w1 hb)
      clear hb
      go_wp2_with fail
      go_roundw
      case rel => first | exact ⟨k + 1, HLT.out, nr_idx k, HN2⟩ | exact ⟨k + 1, HLT.out, nx_idx HLT.out hrn, HN2⟩
      case measure => first | exact nr_meas HLT.out | exact nx_meas HLT.out hrn
    · have hkI : ¬ (k : Int) < (roots.length : Int) := by omega
      have HO2 := hid (show ∃ O, Mks w wr Q L roots O ∧ ∀ m, m ∈ roots → At1 (univ L) O m from ⟨O, hO, fun m hm => by
        obtain ⟨j, hj, rfl⟩ := List.getElem_of_mem hm
        exact hAt j hj (by omega)⟩)
      clear hlt hO hAt HO
      go_wp2_with fail
      go_loopw [7] (fun ag wr => (ag = .bool true ∨ ag = .bool false) ∧ Hid (∃ O, Mks w wr Q L roots O ∧ (∀ m, m ∈ roots → At1 (univ L) O m) ∧ (ag = .bool false → Cl1 (reqQ Q L) (univ L) O (univ L).length))) (fun ag wr => measM ag wr.heap[w.heap.size]?)
      case atStart =>
        obtain ⟨O, hO, hA⟩ := HO2.out
        exact ⟨Or.inl rfl, hid ⟨O, hO, hA, fun h => by cases h⟩⟩
      case round =>
        clear HO2
        obtain ⟨hag, HO3⟩ := hrel
        rcases hag with rfl | rfl
        · obtain ⟨N0, HN0⟩ : ∃ N0, Hid (unmW wr.heap[w.heap.size]? = N0) := ⟨_, hid rfl⟩
          have HO4 := hid (show ∃ O, Mks w wr Q L roots O ∧ (∀ m, m ∈ roots → At1 (univ L) O m) ∧ unm O ≤ N0 ∧ Cl1 (reqQ Q L) (univ L) O 0 by
            obtain ⟨O, hO, hA, _⟩ := HO3.out
            exact ⟨O, hO, hA, by rw [← HN0.out, unmW_is hO.hp]; exact Nat.le_refl _, fun j _ _ h => absurd h (Nat.not_lt_zero _)⟩)
          clear HO3
          go_wp2_with fail
          go_loopw [7, 8] (fun ag iv wr => (ag = .bool true ∨ ag = .bool false) ∧ ∃ i : Nat, i ≤ Q.length ∧ iv = .int .i64 i ∧ Hid (∃ O, Mks w wr Q L roots O ∧ (∀ m, m ∈ roots → At1 (univ L) O m) ∧ unm O ≤ N0 ∧ (ag = .bool true → unm O < N0) ∧ (ag = .bool false → Cl1 (reqQ Q L) (univ L) O i))) (fun _ iv _ => Q.length - (intOf iv).toNat)
          case atStart =>
            obtain ⟨O, hO, hA, hu, hc⟩ := HO4.out
            exact ⟨Or.inr rfl, 0, Nat.zero_le _, rfl, hid ⟨O, hO, hA, hu, (fun h => by cases h), fun _ => hc⟩⟩
          case round =>
            clear HO4
            obtain ⟨hag, i, hi, rfl, HO5⟩ := hrel
            by_cases hlt : i < Q.length
            · have hiI : (i : Int) < (Q.length : Int) := by omega
              have hi0 : (0 : Int) ≤ (i : Int) := by omega
              have HLI := hid hlt
              have hil : i < L.length := by rw [← HLN.out]; exact hlt
              have hiU : i < (univ L).length := by rw [HUL.out]; exact hlt
              have HCE := hid (fun W (h : Below w.heap.size w W) => es_cells (HI.out.below h).es hlt)
              have HMS := hid (fun W (h : Below w.heap.size w W) => ((HI.out.below h).ok i hlt hil).rq)
              have HRQ := hid (show ∀ (h : i < (univ L).length), reqQ Q L (univ L)[i] = L[i].2.1 from fun h => req_at HI.out HC.out hil h)
              have hRl := (HSZ.out L[i] (List.getElem_mem hil)).rn
              have HRX := hid (show ∀ x, x ∈ L[i].2.1 → x ∈ univ L from fun x hx => chk_reqs0 HI.out HC.out _ (List.getElem_mem hiU) x (by rw [HRQ.out]; exact hx))
              generalize (L[i]'hil).2.1 = R at *
              generalize (Q[i]'hlt).2.1 = qv at *
              obtain ⟨qa, qc, hqv, -⟩ := HMS.out w (Below.refl _ _)
              subst hqv
              obtain ⟨eb, eo, hea, -⟩ := HCE.out w (Below.refl _ _)
              subst hea
              have HX2 := hid (fun W (h : Below w.heap.size w W) => show W.cell? ⟨eb, eo + i * 5 + 2, none⟩ = some (.slice qa R.length qc) by
                obtain ⟨eb', eo', e, h2⟩ := HCE.out W h
                injection e with e
                injection e with e1 e2
                subst e1 e2
                exact h2)
              have HIU2 := hid hiU
              clear hlt hil hiU HCE
              go_wp2_with fail
              go_loopw [7, 9] (fun ag kv wr => (ag = .bool true ∨ ag = .bool false) ∧ ∃ k : Nat, k ≤ R.length ∧ kv = .int .i64 k ∧ Hid (∃ O, Mks w wr Q L roots O ∧ (∀ m, m ∈ roots → At1 (univ L) O m) ∧ unm O ≤ N0 ∧ (ag = .bool true → unm O < N0) ∧ (ag = .bool false → Cl1 (reqQ Q L) (univ L) O i ∧ ∀ j (h : j < R.length), j < k → O[i]? = some true → At1 (univ L) O R[j]))) (fun _ kv _ => R.length - (intOf kv).toNat)
              case atStart =>
                obtain ⟨O, hO, hA, hu, h1, h2⟩ := HO5.out
                exact ⟨hag, 0, Nat.zero_le _, rfl, hid ⟨O, hO, hA, hu, h1, fun h => ⟨h2 h, fun j _ hj => absurd hj (Nat.not_lt_zero _)⟩⟩⟩
              case round =>
                clear HO5 hag
                obtain ⟨hag, k, hk, rfl, HO6⟩ := hrel
                obtain ⟨O, hO, hA, hu, ht, hf⟩ := HO6.out
                have hOl : O.length = (univ L).length := hO.ok.ln
                have hiO : i < O.length := by rw [hOl]; exact HIU2.out
                have z0 := bwc_at hO.hp hiO
                have x2 := HX2.out _ hO.bl
                cases hoi : O[i]
                · rw [hoi] at z0
                  have HE := hid (show ∃ O, Mks w wr Q L roots O ∧ (∀ m, m ∈ roots → At1 (univ L) O m) ∧ unm O ≤ N0 ∧ (u7 = .bool true → unm O < N0) ∧ (u7 = .bool false → Cl1 (reqQ Q L) (univ L) O (i + 1)) from ⟨O, hO, hA, hu, ht, fun h j hj hj' hji ho m hm => by
                    rcases Nat.lt_or_ge j i with h1 | h1
                    · exact (hf h).1 j hj hj' h1 ho m hm
                    · have : j = i := by omega
                      subst this
                      rw [hoi] at ho; cases ho⟩)
                  clear hoi hO hA hu ht hf hOl hiO HO6
                  go_wp2_with fail
                  go_roundw
                  case rel => first | exact ⟨hag, i + 1, HLI.out, nr_idx i, HE⟩ | exact ⟨hag, i + 1, HLI.out, nx_idx HLI.out (by omega), HE⟩
                  case measure => first | exact nr_meas HLI.out | exact nx_meas HLI.out (by omega)
                · rw [hoi] at z0
                  have hRi := hO.ok.so i HIU2.out hiO hoi
                  by_cases hlk : k < R.length
                  · have hkI : (k : Int) < (R.length : Int) := by omega
                    have hk0 : (0 : Int) ≤ (k : Int) := by omega
                    obtain ⟨xb, xo, hxa, y0, y1⟩ := (HMS.out _ hO.bl).cells hlk
                    subst hxa
                    obtain ⟨n, hnU, e1, e2⟩ := HIU.out R[k] (HRX.out _ (List.getElem_mem hlk))
                    have HF := hid (HFO.out R[k] _ hO.bl)
                    rw [e1] at HF
                    have hnq : n < Q.length := by rw [← HUL.out]; exact hnU
                    have hnI : (n : Int) < (Q.length : Int) := by omega
                    have hn0 : (0 : Int) ≤ (n : Int) := by omega
                    have hnO : n < O.length := by rw [hOl]; exact hnU
                    have HLK := hid hlk
                    have hRn : Rch (reqQ Q L) roots (univ L)[n] := by
                      rw [e2]
                      exact .step hRi (by rw [HRQ.out]; exact List.getElem_mem hlk)
                    cases hon : O[n]
                    · have HNX := hid (fun W (hb : Below wr.heap.size wr W) => show ∃ O', Mks w (W.setCell ⟨w.heap.size, n, none⟩ (.bool true)) Q L roots O' ∧ (∀ m, m ∈ roots → At1 (univ L) O' m) ∧ unm O' ≤ N0 ∧ unm O' < N0 from by
                        have hs := unm_set O n hnO hon
                        exact ⟨O.set n true, (hO.below hb).set hnU hRn, fun m hm => (hA m hm).set n, by omega, by omega⟩)
                      have HCL := hid (fun W (hb : Below wr.heap.size wr W) => show W.cell? ⟨w.heap.size, n, none⟩ = some (.bool false) ∧ ∀ o, W.frozen? ⟨w.heap.size, o, none⟩ = false from ⟨by rw [bwc_at (hO.below hb).hp hnO, hon], fun o => Lib.frozen_of_heap (hO.below hb).hp o⟩)
                      generalize R[k] = x at *
                      obtain ⟨x1, x2'⟩ := x
                      clear hlk e1 e2 hO hA hu ht hf hOl hiO hon hnO hnU hRn hRi hoi HO6
                      go_wp2_with fail
                      refine HF.out.mono ?_
                      rintro e w1 ⟨rfl, hb⟩
                      obtain ⟨t0, tf⟩ := HCL.out w1 hb
                      obtain ⟨O', g1, g2, g3, g4⟩ := HNX.out w1 hb
                      have HN2 := hid (show ∃ O, Mks w (w1.setCell ⟨w.heap.size, n, none⟩ (.bool true)) Q L roots O ∧ (∀ m, m ∈ roots → At1 (univ L) O m) ∧ unm O ≤ N0 ∧ (Value.bool true = .bool true → unm O < N0) ∧ (Value.bool true = .bool false → Cl1 (reqQ Q L) (univ L) O i ∧ ∀ j (h : j < R.length), j < k + 1 → O[i]? = some true → At1 (univ L) O R[j]) from ⟨O', g1, g2, g3, fun _ => g4, fun h => by cases h⟩)
                      clear hb g1 g2 g3 g4
                      go_wp2_with fail
                      go_roundw
                      case rel => first | exact ⟨Or.inl rfl, k + 1, HLK.out, nr_idx k, HN2⟩ | exact ⟨Or.inl rfl, k + 1, HLK.out, nx_idx HLK.out hRl, HN2⟩ | exact ⟨by simp, k + 1, HLK.out, nr_idx k, by simpa using HN2⟩
                      case measure => first | exact nr_meas HLK.out | exact nx_meas HLK.out hRl
                    · have HNX := hid (fun W (hb : Below wr.heap.size wr W) => show ∃ O, Mks w W Q L roots O ∧ (∀ m, m ∈ roots → At1 (univ L) O m) ∧ unm O ≤ N0 ∧ (u7 = .bool true → unm O < N0) ∧ (u7 = .bool false → Cl1 (reqQ Q L) (univ L) O i ∧ ∀ j (h : j < R.length), j < k + 1 → O[i]? = some true → At1 (univ L) O R[j]) from ⟨O, hO.below hb, hA, hu, ht, fun h => ⟨(hf h).1, fun j h1 h2 h3 => by
                        rcases Nat.lt_or_ge j k with h4 | h4
                        · exact (hf h).2 j h1 h4 h3
                        · have : j = k := by omega
                          subst this
                          exact ⟨n, hnU, hnO, e2, hon⟩⟩⟩)
                      have HCL := hid (fun W (hb : Below wr.heap.size wr W) => show W.cell? ⟨w.heap.size, n, none⟩ = some (.bool true) by rw [bwc_at (hO.below hb).hp hnO, hon])
                      generalize R[k] = x at *
                      obtain ⟨x1, x2'⟩ := x
                      clear hlk e1 e2 hO hA hu ht hf hOl hiO hon hnO hnU hRn hRi hoi HO6
                      go_wp2_with fail
                      refine HF.out.mono ?_
                      rintro e w1 ⟨rfl, hb⟩
                      have t0 := HCL.out w1 hb
                      have HN2 := hid (HNX.out w1 hb)
                      clear hb
                      go_wp2_with fail
                      go_roundw
                      case rel => first | exact ⟨hag, k + 1, HLK.out, nr_idx k, HN2⟩ | exact ⟨hag, k + 1, HLK.out, nx_idx HLK.out hRl, HN2⟩
                      case measure => first | exact nr_meas HLK.out | exact nx_meas HLK.out hRl
                  · have hkI : ¬ (k : Int) < (R.length : Int) := by omega
                    have HE := hid (show ∃ O, Mks w wr Q L roots O ∧ (∀ m, m ∈ roots → At1 (univ L) O m) ∧ unm O ≤ N0 ∧ (u7 = .bool true → unm O < N0) ∧ (u7 = .bool false → Cl1 (reqQ Q L) (univ L) O (i + 1)) from ⟨O, hO, hA, hu, ht, fun h j hj hj' hji ho m hm => by
                      rcases Nat.lt_or_ge j i with h1 | h1
                      · exact (hf h).1 j hj hj' h1 ho m hm
                      · have : j = i := by omega
                        subst this
                        rw [HRQ.out] at hm
                        obtain ⟨t, ht2, rfl⟩ := List.getElem_of_mem hm
                        exact (hf h).2 t ht2 (by omega) (by rw [List.getElem?_eq_getElem hj', ho])⟩)
                    clear hlk hoi hO hA hu ht hf hOl hiO hRi HO6
                    go_wp2_with fail
                    go_roundw
                    case rel => first | exact ⟨hag, i + 1, HLI.out, nr_idx i, HE⟩ | exact ⟨hag, i + 1, HLI.out, nx_idx HLI.out (by omega), HE⟩
                    case measure => first | exact nr_meas HLI.out | exact nx_meas HLI.out (by omega)
            · have hiI : ¬ (i : Int) < (Q.length : Int) := by omega
              have hie : i = Q.length := by omega
              obtain ⟨O, hO, hA, hu, ht, hf⟩ := HO5.out
              have HE := hid (show ∃ O, Mks w wr Q L roots O ∧ (∀ m, m ∈ roots → At1 (univ L) O m) ∧ (u7 = .bool false → Cl1 (reqQ Q L) (univ L) O (univ L).length) from ⟨O, hO, hA, fun h => by rw [HUL.out, ← hie]; exact hf h⟩)
              have HME := hid (show measM u7 wr.heap[w.heap.size]? < N0 + 1 by
                rcases hag with rfl | rfl
                · show unmW _ + 1 < N0 + 1
                  rw [unmW_is hO.hp]
                  have := ht rfl
                  omega
                · exact Nat.succ_pos _)
              clear hlt hO hA hu ht hf HO5
              go_wp2_with fail
              go_roundw
              case rel => exact ⟨hag, HE⟩
              case measure =>
                have h1 := HME.out
                rw [← HN0.out] at h1
                exact h1
        · obtain ⟨O, hO, hA, hc⟩ := HO3.out
          have HFI := hid (show ∃ O : List Bool, Mks w wr Q L roots O ∧ ∀ i (hi : i < (univ L).length) (hi' : i < O.length), O[i] = true ↔ Rch (reqQ Q L) roots (univ L)[i] from ⟨O, hO, fun i hi hi' => hO.ok.iff (univ_nd HC.out) hA (hc rfl) hi hi'⟩)
          clear hO hA hc HO3
          go_wp2_with fail
          go_ret
          obtain ⟨O, h1, h2⟩ := HFI.out
          exact ⟨O, rfl, h1, h2⟩
end Ve
end Go.Proofs.YtjhiajeeijfkeaaGreatDoor

/-
  What the document's answer says is reached (ReachOf).
-/
namespace Go.Proofs.YtjhiajeeijfkeaaGreatDoor
open Go.RowKit Go.Maps
namespace Ve

theorem box_two {W : World} {g : Nat} {x y : Value} {T : TypeId} (h : W.heap[g]? = some (.cells #[x, y] T (0, 0))) : W.cell? ⟨g, 0, none⟩ = some x ∧ W.cell? ⟨g, 1, none⟩ = some y ∧ ∀ o, W.frozen? ⟨g, o, none⟩ = false :=
  ⟨by rw [Lib.cell_of_heap h]; rfl, by rw [Lib.cell_of_heap h]; rfl, fun o => Lib.frozen_of_heap h o⟩
/-- Those that are marked. -/
def selO : List Bool → List Bm → List Bm
  | b :: O, m :: U => if b then m :: selO O U else selO O U
  | _, _ => []
theorem selO_take : ∀ (O : List Bool) (U : List Bm) (k : Nat) (h : k < O.length) (h' : k < U.length), selO (O.take (k + 1)) (U.take (k + 1)) = selO (O.take k) (U.take k) ++ (if O[k] then [U[k]] else [])
  | [], _, _, h, _ => absurd h (Nat.not_lt_zero _)
  | _ :: _, [], _, _, h' => absurd h' (Nat.not_lt_zero _)
  | b :: O, m :: U, 0, _, _ => by cases b <;> simp [selO]
  | b :: O, m :: U, k + 1, h, h' => by
    have ih := selO_take O U k (by simpa using h) (by simpa using h')
    simp only [List.take_succ_cons, selO, List.getElem_cons_succ]
    cases b <;> simp [ih]
theorem selO_filter : ∀ (O : List Bool) (U : List Bm) (P : Bm → Bool), O.length = U.length → (∀ i (h : i < U.length) (h' : i < O.length), O[i] = P U[i]) → selO O U = U.filter P
  | [], [], _, _, _ => rfl
  | [], _ :: _, _, h, _ => by simp at h
  | _ :: _, [], _, h, _ => by simp at h
  | b :: O, m :: U, P, h, hp => by
    have h0 := hp 0 (by simp) (by simp)
    have ih := selO_filter O U P (by simpa using h) (fun i h1 h2 => by
      have h3 := hp (i + 1) (by simpa using h1) (by simpa using h2)
      simp only [List.getElem_cons_succ] at h3
      exact h3)
    simp only [List.getElem_cons_zero] at h0
    simp only [selO, List.filter_cons, ih, h0]
theorem selO_go {w : World} {v : Value} {Q : List Raw} {L : List Ent} {roots : List Bm} {O : List Bool} {T : By} (I : Ixs w v Q L) (hl : O.length = (univ L).length) (hO : ∀ i (hi : i < (univ L).length) (hi' : i < O.length), O[i] = true ↔ Rch (reqQ Q L) roots (univ L)[i]) (hT : Came (reqQ Q L) (univ L) roots T) : selO O (univ L) = goM T Q := by
  rw [selO_filter O (univ L) (cameB T) hl (fun i h h' => by
    cases ho : O[i]
    · cases hc : cameB T (univ L)[i]
      · rfl
      · have := (hO i h h').2 ((hT.cameB _).1 hc)
        rw [ho] at this; cases this
    · exact ((hT.cameB _).2 ((hO i h h').1 ho)).symm), ← univ_eq I]
  unfold goM goQ
  rw [List.filter_map]
  rfl
end Ve
end Go.Proofs.YtjhiajeeijfkeaaGreatDoor
