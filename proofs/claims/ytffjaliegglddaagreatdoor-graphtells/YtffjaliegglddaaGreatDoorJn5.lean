/-
  Contracts of library functions, laid at this program out of the compiled library, each by one application.
-/
import Derived.Shelf.SlicesQ.Reverse
import Derived.Shelf.SlGeneric
import Derived.Test.YtffjaliegglddaaGreatDoorProg
import Derived.Test.YtffjaliegglddaaGreatDoorJn3
import Derived.Test.YtffjaliegglddaaGreatDoorLawM
import Derived.Test.YtffjaliegglddaaGreatDoorJn4
import Derived.Laws.OwnMore
import Derived.Test.YtffjaliegglddaaGreatDoorJn2
namespace Go.Proofs
open Go.Shelf
def Tryz.revMods_ren : Go.Shelf.Ren := ⟨fun | 35 => 42 | n => n, fun | 22 => 23 | 23 => 25 | 3 => 3 | 4 => 4 | 0 => 0 | n => n, fun | n => n⟩
theorem Tryz.revMods : Go.Proofs.SlLaysE0.n35 Tryz.prog Tryz.revMods_ren := {
  mixed := by kernel_rfl
  f35 := ⟨Tryz.f42.name, by decide, Tryz.func42.trans (congrArg some (by kernel_rfl))⟩
  t0 := Tryz.underlying0
  a0 := Tryz.isAgg0
  z0 := Tryz.sizeOf0
  v0 := Tryz.zeroValue0
  t3 := Tryz.underlying3
  a3 := Tryz.isAgg3
  z3 := Tryz.sizeOf3
  v3 := Tryz.zeroValue3
  t4 := Tryz.underlying4
  a4 := Tryz.isAgg4
  z4 := Tryz.sizeOf4
  v4 := Tryz.zeroValue4
  t22 := Tryz.underlying23
  a22 := Tryz.isAgg23
  z22 := Tryz.sizeOf23
  v22 := Tryz.zeroValue23 }
end Go.Proofs

/-
  slices.Reverse of modules; whom a module came by, out of the map.
-/
namespace Go.Proofs.YtffjaliegglddaaGreatDoor
open Go.RowKit Go.Maps Go.Sort Go.Lib
namespace Ve

def encM (m : Bm) : List Value := [.string m.1, .string m.2]
theorem grownBy_rowK {w : World} {g n : Nat} (d : Array Bm) : w.grownBy (putRowK encM 2 (Sort.ahead w n) g 0 d) (some g) := by
  refine ⟨rfl, rfl, rfl, by simp [putRowK, Sort.putRow, Sort.mapBlock, Sort.ahead], fun k hk hne => ?_⟩
  have : g ≠ k := fun e => hne (by rw [e])
  simp [putRowK, Sort.putRow, Sort.mapBlock, Sort.ahead, Array.getElem?_modify, this]
theorem holds_own {w : World} {B cap g : Nat} {Y : List Bm} (h : w.ownsRow B 25 2 (.slice (some ⟨g, 0, none⟩) Y.length cap) Y.length (flatM Y)) : HoldsK encM 2 w g 0 Y.toArray := by
  obtain ⟨_, ⟨hv, _⟩ | ⟨g', cap', cur, hv, hg, hblk, hcap, hcm, hcs, hct⟩⟩ := h
  · cases hv
  · injection hv with e1 e2 e3
    injection e1 with e1
    injection e1 with e1
    subst e1
    intro j hj
    have hj2 : j < Y.length * 2 := by simpa using hj
    have h1 := flatM_get Y (j / 2) (j % 2) (by omega) (by omega)
    rw [show j / 2 * 2 + j % 2 = j by omega, ← hct, List.getElem?_take, if_pos hj2] at h1
    refine ⟨?_, by simp [World.frozen?, hblk]⟩
    rw [get_flatK encM 2 Y.toArray j (by simpa using hj)]
    have hd : j / 2 < Y.length := by omega
    simp only [World.cell?, hblk, Nat.zero_add]
    have h2 : cur[j]? = cur.toList[j]? := by simp
    rw [h2, h1]
    have e3 : Y.toArray[j / 2]! = Y[j / 2] := by simp [hd]
    rw [e3]
    rcases Nat.mod_two_eq_zero_or_one j with e | e
    · rw [e]; rfl
    · rw [e]; rfl
/-- slices.Reverse of an own row of modules. -/
theorem rev_any (Y : List Bm) (g cap B : Nat) (w : World) (hn : Y.length ≤ 1000000) (h : w.ownsRow B 25 2 (.slice (some ⟨g, 0, none⟩) Y.length cap) Y.length (flatM Y)) :
    Calls Tryz.prog 42 #[.slice (some ⟨g, 0, none⟩) Y.length cap] w fun e w' => e = .returned (.tuple #[]) ∧ MsAt w' (.slice (some ⟨g, 0, none⟩) Y.length cap) Y.reverse ∧ w.grownBy w' (some g) := by
  have hH := holds_own h
  have hc : Y.length ≤ cap := by
    obtain ⟨_, ⟨hv, _⟩ | ⟨g', cap', cur, hv, hg, hblk, hcap, hcm, hcs, hct⟩⟩ := h
    · cases hv
    · injection hv with e1 e2 e3
      omega
  have hR := AnyQ.slices_Reverse Tryz.revMods 2 Tryz.isAgg25 Tryz.sizeOf25 encM (fun _ => rfl) (fun x v hv => by simp [encM] at hv; rcases hv with rfl | rfl <;> rfl) g 0 cap Y.toArray w hH (by simp; omega)
  have hsz : Y.toArray.size = Y.length := by simp
  rw [hsz] at hR
  refine hR.mono ?_
  rintro e w' ⟨h1, n, rfl⟩
  refine ⟨h1, ⟨some ⟨g, 0, none⟩, cap, by rw [List.length_reverse], by rw [List.length_reverse]; exact hc, fun _ => ⟨g, 0, rfl, fun j hj => ?_⟩⟩, grownBy_rowK _⟩
  have hK := holdsK_putRowK encM 2 (Sort.ahead w n) g 0 Y.toArray Y.toArray.reverse (holdsK_ahead encM 2 w n g 0 Y.toArray hH) (by simp)
  have hj2 : j < Y.toArray.reverse.size := by simpa using hj
  have e1 : Y.toArray.reverse[j]! = Y.reverse[j] := by
    have : Y.toArray.reverse = Y.reverse.toArray := by simp
    rw [this, getElem!_pos Y.reverse.toArray j (by simpa using hj)]
    rfl
  have c0 := (hK.cell (i := j) (c := 0) hj2 (by omega)).1
  have c1 := (hK.cell (i := j) (c := 1) hj2 (by omega)).1
  rw [e1] at c0 c1
  exact ⟨by simpa [encM] using c0, by simpa [encM] using c1⟩
/-- Whom a module came by. -/
theorem look_at {w : World} {b : Nat} {T : By} (h : ByAt w b T) (hT : szT T) (hn : (whoT T).Nodup) {k : Nat} (hk : k < T.length) :
    (Instr.lookup 72 (.map (some b)) (.agg #[.string T[k].1.1, .string T[k].1.2]) false).run Tryz.prog w = .ok (.agg #[.string T[k].2.1, .string T[k].2.2]) w := by
  have hs := hT T[k] (List.getElem_mem hk)
  obtain ⟨v, ps, hrun, hv⟩ := World.ownsMap.lookup h modKey Tryz.underlying72 (zeroMod w) (rB_mod _) (keyOf_mod T[k].1 hs.1 hs.2)
  rw [datB_at hT hn hk] at hv
  obtain rfl := rB_inv hv
  exact hrun
end Ve
end Go.Proofs.YtffjaliegglddaaGreatDoor

/-
  What graph.Way answers.
-/
namespace Go.Proofs.YtffjaliegglddaaGreatDoor
open Go.RowKit Go.Maps
namespace Ve

/-- What is asked ahead of a walk of an index and roots that are right. -/
structure Rgt (Q : List Raw) (L : List Ent) (roots : List Bm) : Prop where
  c : (chk Q L).1 = 0
  r : ∀ m, m ∈ roots → m ∈ univ L
theorem rgt_of {w : World} {v : Value} {Q : List Raw} {L : List Ent} {roots : List Bm} (I : Ixs w v Q L) (h0 : (chkG Q L roots).1 = 0) : Rgt Q L roots := by
  have hc0 : (chk Q L).1 = 0 := by
    by_cases hc : (chk Q L).1 = 0
    · exact hc
    · rw [chkG_bad hc] at h0; exact absurd h0 hc
  exact ⟨hc0, by rw [chkG_ok hc0] at h0; exact nonE_found I h0⟩
theorem univ_sz {L : List Ent} (sh : ∀ e, e ∈ L → ShE e) : ∀ m, m ∈ univ L → m.1.size ≤ maxLen ∧ m.2.size ≤ maxLen := fun m hm => by
  obtain ⟨e, he, rfl⟩ := List.mem_map.1 hm
  have := sh e he
  exact ⟨by have := this.p; unfold maxLen; omega, by have := this.v; unfold maxLen; omega⟩
set_option maxRecDepth 100000 in
set_option maxHeartbeats 2000000 in
theorem way_none (Q : List Raw) (L : List Ent) (roots : List Bm) (x : Bm) (v rv : Value) (A : Nat → Addr) (m : Int) (w : World) (hn : L.length ≤ 1000) (hrn : roots.length ≤ 1000000) (sh : ∀ e, e ∈ L → ShE e) (S : Te w A m) (I : Ixs w v Q L) (hr : MsAt w rv roots) (h0 : (chkG Q L roots).1 = 0) (hx : x.1.size ≤ maxLen ∧ x.2.size ≤ maxLen) (hno : ¬ Rch (reqQ Q L) roots x) :
    Calls Tryz.prog 19 #[v, rv, .agg #[.string x.1, .string x.2]] w fun e w' => ∃ a, e = .returned (.tuple #[.slice none 0 0, .iface 261 (.pointer (some a))]) ∧ a = A 4 ∧ Below w.heap.size w w' := by
  have rg := rgt_of I h0
  have hBa := (Below.refl w.heap.size w).alloc (Nat.le_refl _) (.cells #[.string x.1, .string x.2] 25)
  have HBa := hid hBa
  have HCK := hid (gcheck_any Q L roots v rv A m _ hn hrn sh (S.below hBa) (I.below hBa) (hr.below hBa))
  have HWK := hid (fun W (h : Below w.heap.size w W) => walk_any Q L roots v rv W hn hrn (I.below h) (hr.below h) (univ_sz sh) (fun e he => (sh e he).rn) rg.r (chk_reqs0 I rg.c))
  have HG4 := hid (fun W (h : Below w.heap.size w W) => (S.below h).sen.g4)
  obtain ⟨a, c, hv, -⟩ := id I.es
  subst hv
  obtain ⟨ra, rc, hrv, -⟩ := id hr
  subst hrv
  have HH0 := hid h0
  have HX := hid hx
  have HNO := hid hno
  clear S I hr sh h0 hx hno rg hBa
  go_enter Tryz.func19, Tryz.ntmps19
  go_wp2_with fail
  refine HCK.out.mono ?_
  rintro e w1 ⟨y, rfl, he, hb⟩
  have HB1 := hid (HBa.out.trans (hb.mono (by simp)))
  have hy : y = .nilIface := by
    rcases he.kind with ⟨_, h⟩ | ⟨h, _⟩
    · exact h
    · exact absurd HH0.out h
  subst hy
  have e0 : w1.heap[w.heap.size]? = some (.cells #[.string x.1, .string x.2] 25 (0, 0)) := by rw [hb.block _ (by simp)]; exact heap_new w _
  have HE0 := hid e0
  clear hb he HCK e0
  go_wp2_with fail
  refine (HWK.out w1 HB1.out).mono ?_
  rintro e w2 ⟨mb, rfl, T, hby, hsz, hcm, hb⟩
  have HB2 := hid (HB1.out.trans (hb.mono HB1.out.size))
  have HCA := hid (came_any mb T x w2 HX.out hsz hby)
  have hcb : cameB T x = false := by
    cases h : cameB T x with
    | false => rfl
    | true => exact absurd ((hcm.cameB x).1 h) HNO.out
  rw [hcb] at HCA
  have e2 : w2.heap[w.heap.size]? = some (.cells #[.string x.1, .string x.2] 25 (0, 0)) := (hb.block _ (lt_of_blk HE0.out)).trans HE0.out
  have x0 : w2.cell? ⟨w.heap.size, 0, none⟩ = some (.string x.1) := by rw [Lib.cell_of_heap e2]; rfl
  have x1 : w2.cell? ⟨w.heap.size, 1, none⟩ = some (.string x.2) := by rw [Lib.cell_of_heap e2]; rfl
  clear hby hsz hcm hb hcb e2 HWK
  go_wp2_with fail
  refine HCA.out.mono ?_
  rintro e w3 ⟨rfl, hb⟩
  have HB3 := hid (HB2.out.trans (hb.mono HB2.out.size))
  have g4 := HG4.out w3 HB3.out
  clear hb
  go_wp2_with fail
  go_quiet (fail)
  go_wp2_with fail
  go_ret2
  exact ⟨_, rfl, rfl, below_drawn_of HB3.out _⟩
theorem modNeq_ne {m f : Bm} (h : m ≠ f) (W : World) : (binOp .neq 25 (.agg #[.string m.1, .string m.2]) (.agg #[.string f.1, .string f.2])).run Tryz.prog W = .ok (.bool true) W := by
  rw [modNeq, decide_eq_false (fun e => h (Prod.ext e.1 e.2))]; rfl
/-- A way: from a root to a module, each required by the one ahead, no one twice. -/
structure WayOk (req : Bm → List Bm) (U roots : List Bm) (x : Bm) (Y : List Bm) : Prop where
  un : ∀ y, y ∈ Y → y ∈ U
  pos : 0 < Y.length
  first : Y[0]'pos ∈ roots
  last : Y.getLast? = some x
  nd : Y.Nodup
  ch : ∀ a (ha : a + 1 < Y.length), Y[a + 1] ∈ req Y[a]
  ds : Dst req roots x Y.length
def lenOf : Value → Nat
  | .slice _ n _ => n
  | _ => 0
/-- The way back, as far as it has come. -/
structure Wst (w0 W : World) (req : Bm → List Bm) (T : By) (x : Bm) (mb : Nat) (yv : Value) (k : Nat) (V : List Bm) : Prop where
  bl : Below w0.heap.size w0 W
  wy : Wy req T x k V.reverse
  ln : V.length + k ≤ T.length
  xc : ∃ h : k < T.length, W.heap[w0.heap.size]? = some (.cells #[.string (T[k]'h).1.1, .string (T[k]'h).1.2] 25 (0, 0))
  mp : ByAt W mb T
  row : W.ownsRow (w0.heap.size + 1) 25 2 yv V.length (flatM V)
theorem Wst.below {w0 W W' : World} {req : Bm → List Bm} {T : By} {x : Bm} {mb : Nat} {yv : Value} {k : Nat} {V : List Bm} (h : Wst w0 W req T x mb yv k V) (hb : Below W.heap.size W W') : Wst w0 W' req T x mb yv k V := by
  obtain ⟨hk, hc⟩ := h.xc
  exact ⟨h.bl.trans (hb.mono h.bl.size), h.wy, h.ln, ⟨hk, (hb.block _ (lt_of_blk hc)).trans hc⟩, h.mp.below hb, owns_below h.row hb⟩
/-- The box behind a store of a module. -/
def putM (W : World) (b : Nat) (m : Bm) : World := (W.setCell ⟨b, 0, none⟩ (.string m.1)).setCell ⟨b, 1, none⟩ (.string m.2)
theorem putM_block {W : World} {b : Nat} {c0 c1 : Value} {t : TypeId} (m : Bm) (h : W.heap[b]? = some (.cells #[c0, c1] t (0, 0))) : (putM W b m).heap[b]? = some (.cells #[.string m.1, .string m.2] t (0, 0)) := by
  unfold putM
  have h1 := set_block (o := 0) (x := .string m.1) h
  have h2 := set_block (o := 1) (x := .string m.2) h1
  simpa using h2
theorem putM_other {W : World} {b g : Nat} (m : Bm) (h : g ≠ b) : (putM W b m).heap[g]? = W.heap[g]? := by
  unfold putM
  rw [Below.heap_setCell _ _ _ _ h, Below.heap_setCell _ _ _ _ h]
theorem putM_size (W : World) (b : Nat) (m : Bm) : (putM W b m).heap.size = W.heap.size := by simp [putM, World.setCell]
theorem putM_owns {W : World} {b n : Nat} {e : TypeId} {v : Value} {xs : List Value} (m : Bm) (h : W.ownsRow (b + 1) e 2 v n xs) : (putM W b m).ownsRow (b + 1) e 2 v n xs := by
  have hne : v.ownBlock ≠ some b := fun hh => by have := (h.lt b hh).1; omega
  exact owns_set (owns_set h hne) hne
/-- One step back. -/
theorem Wst.more {w0 W w6 : World} {req : Bm → List Bm} {T : By} {x : Bm} {mb : Nat} {yv yv' : Value} {k : Nat} {V : List Bm} {o : Obj} (h : Wst w0 W req T x mb yv k V) (hk : k < T.length) {j : Nat} (hj : j < k) (e1 : (T[j]'(Nat.lt_trans hj hk)).1 = T[k].2) (e2 : T[k].1 ∈ req T[k].2)
    (hown : w6.ownsRow (w0.heap.size + 1) 25 2 yv' (V.length + 1) (flatM V ++ [.string T[k].2.1, .string T[k].2.2])) (hg : ((putM W w0.heap.size T[k].2).alloc o).grownBy w6 yv.ownBlock) :
    Wst w0 w6 req T x mb yv' j (V ++ [T[k].2]) := by
  obtain ⟨hk', hc⟩ := h.xc
  have hs := h.bl.size
  have l1 := lt_of_blk hc
  obtain ⟨es, clock, hm1⟩ := h.mp.block
  have l2 := lt_of_blk hm1
  have n1 : w0.heap.size ≠ mb := h.mp.ne hc
  have r1 : yv.ownBlock ≠ some w0.heap.size := fun hh => by have := (h.row.lt _ hh).1; omega
  have r2 : yv.ownBlock ≠ some mb := fun hh => by
    obtain ⟨hl, ⟨h1, _⟩ | ⟨g', cap, cur, q1, q2, q3, _⟩⟩ := h.row
    · rw [h1] at hh; cases hh
    · rw [q1] at hh
      have : g' = mb := by simpa [Value.ownBlock] using hh
      exact h.mp.ne q3 this
  have al := (Below.refl (putM W w0.heap.size T[k].2).heap.size (putM W w0.heap.size T[k].2)).alloc (Nat.le_refl _) o
  have keep : ∀ b, b < W.heap.size → yv.ownBlock ≠ some b → w6.heap[b]? = (putM W w0.heap.size T[k].2).heap[b]? := fun b hb hr => by
    rw [hg.block b (by simp [putM_size]; omega) (fun e => hr e.symm), al.block b (by rw [putM_size]; exact hb)]
  have b1 : Below w0.heap.size w0 (putM W w0.heap.size T[k].2) := (h.bl.setCell (p := ⟨w0.heap.size, 0, none⟩) (Nat.le_refl _) _).setCell (p := ⟨w0.heap.size, 1, none⟩) (Nat.le_refl _) _
  have b2 : Below w0.heap.size w0 w6 := (b1.alloc b1.size o).grown hg (by simp [putM_size]; omega) (fun q hq => by have := (h.row.lt q hq).1; omega)
  refine ⟨b2, ?_, ?_, ⟨Nat.lt_trans hj hk, ?_⟩, ?_, ?_⟩
  · rw [List.reverse_append, List.reverse_singleton, ← e1]
    exact Wy.next h.wy hk hj e1 e2
  · have := h.ln; simp; omega
  · rw [keep _ l1 r1, e1]; exact putM_block _ hc
  · exact (h.mp.heap (putM_other _ (Ne.symm n1))).heap (keep mb l2 r2)
  · rw [List.length_append, flatM_app]
    exact hown
theorem Wst.ok {w0 W : World} {Q : List Raw} {L : List Ent} {roots : List Bm} {T : By} {x : Bm} {mb : Nat} {yv : Value} {k : Nat} {V : List Bm} (h : Wst w0 W (reqQ Q L) T x mb yv k V) (hc : Came (reqQ Q L) (univ L) roots T) (hk : k < T.length) (e : T[k].1 = T[k].2) : WayOk (reqQ Q L) (univ L) roots x V.reverse := by
  refine ⟨fun y hy => by
    obtain ⟨p, hp, _, e⟩ := h.wy.far y hy
    exact hc.b.un y (whoT_mem.2 ⟨p, hp, e⟩), h.wy.pos, ?_, h.wy.last, h.wy.nd hc.b.nd, h.wy.chain, ?_⟩
  · rw [h.wy.head]
    rcases hc.b.by_ k hk with h1 | ⟨j, hj, h2, _⟩
    · exact h1.2
    · have := nd_get hc.b.nd (by omega) hk (h2.trans e.symm)
      omega
  · obtain ⟨G, hG⟩ := hc.l
    obtain ⟨t, ht, ht', hk', e1, e2⟩ := hG.way hc.b.nd h.wy
    have h1 : G[k] = 1 := by
      rcases hG.st k hk hk' with h1 | ⟨j, hj, h2, _⟩
      · exact h1.2
      · have := nd_get hc.b.nd (by omega) hk (h2.trans e.symm)
        omega
    have h2 := hG.dst hc.b.nd hc.r ht ht'
    rw [e1] at h2
    rw [show V.reverse.length = G[t] by omega]
    exact h2
set_option maxRecDepth 100000 in
set_option maxHeartbeats 2000000 in
theorem way_some (Q : List Raw) (L : List Ent) (roots : List Bm) (x : Bm) (v rv : Value) (A : Nat → Addr) (m : Int) (w : World) (hn : L.length ≤ 1000) (hrn : roots.length ≤ 1000000) (sh : ∀ e, e ∈ L → ShE e) (S : Te w A m) (I : Ixs w v Q L) (hr : MsAt w rv roots) (h0 : (chkG Q L roots).1 = 0) (hx : x.1.size ≤ maxLen ∧ x.2.size ≤ maxLen) (hrc : Rch (reqQ Q L) roots x) :
    Calls Tryz.prog 19 #[v, rv, .agg #[.string x.1, .string x.2]] w fun e w' => ∃ u, e = .returned (.tuple #[u, .nilIface]) ∧ ∃ Y, MsAt w' u Y ∧ WayOk (reqQ Q L) (univ L) roots x Y ∧ Y.length ≤ 1000 ∧ Below w.heap.size w w' := by
  obtain ⟨i0, hi0, hz0, hz1, hz2⟩ := info_parts infoMod
  have rg := rgt_of I h0
  have hBa := (Below.refl w.heap.size w).alloc (Nat.le_refl _) (.cells #[.string x.1, .string x.2] 25)
  have HBa := hid hBa
  have HCK := hid (gcheck_any Q L roots v rv A m _ hn hrn sh (S.below hBa) (I.below hBa) (hr.below hBa))
  have HWK := hid (fun W (h : Below w.heap.size w W) => walk_any Q L roots v rv W hn hrn (I.below h) (hr.below h) (univ_sz sh) (fun e he => (sh e he).rn) rg.r (chk_reqs0 I rg.c))
  obtain ⟨a, c, hv, -⟩ := id I.es
  subst hv
  obtain ⟨ra, rc, hrv, -⟩ := id hr
  subst hrv
  have HH0 := hid h0
  have HX := hid hx
  have HRC := hid hrc
  have hgd := modGuard
  clear S I hr sh h0 hx hrc rg hBa
  go_enter Tryz.func19, Tryz.ntmps19
  go_wp2_with fail
  refine HCK.out.mono ?_
  rintro e w1 ⟨y, rfl, he, hb⟩
  have HB1 := hid (HBa.out.trans (hb.mono (by simp)))
  have hy : y = .nilIface := by
    rcases he.kind with ⟨_, h⟩ | ⟨h, _⟩
    · exact h
    · exact absurd HH0.out h
  subst hy
  have e0 : w1.heap[w.heap.size]? = some (.cells #[.string x.1, .string x.2] 25 (0, 0)) := by rw [hb.block _ (by simp)]; exact heap_new w _
  have HE0 := hid e0
  clear hb he HCK e0
  go_wp2_with fail
  refine (HWK.out w1 HB1.out).mono ?_
  rintro e w2 ⟨mb, rfl, T, hby, hsz, hcm, hb⟩
  have HB2 := hid (HB1.out.trans (hb.mono HB1.out.size))
  have HCA := hid (came_any mb T x w2 HX.out hsz hby)
  rw [(hcm.cameB x).2 HRC.out] at HCA
  have HBY := hid hby
  have HSZ := hid hsz
  have HCM := hid hcm
  have e2 : w2.heap[w.heap.size]? = some (.cells #[.string x.1, .string x.2] 25 (0, 0)) := (hb.block _ (lt_of_blk HE0.out)).trans HE0.out
  have HE2 := hid e2
  have x0 : w2.cell? ⟨w.heap.size, 0, none⟩ = some (.string x.1) := by rw [Lib.cell_of_heap e2]; rfl
  have x1 : w2.cell? ⟨w.heap.size, 1, none⟩ = some (.string x.2) := by rw [Lib.cell_of_heap e2]; rfl
  clear hby hsz hcm hb e2 HWK
  go_wp2_with fail
  refine HCA.out.mono ?_
  rintro e w3 ⟨rfl, hb⟩
  have HB3 := hid (HB2.out.trans (hb.mono HB2.out.size))
  have HBY3 := hid (HBY.out.below hb)
  have e3 : w3.heap[w.heap.size]? = some (.cells #[.string x.1, .string x.2] 25 (0, 0)) := (hb.block _ (lt_of_blk HE2.out)).trans HE2.out
  have HE3 := hid e3
  have y0 : w3.cell? ⟨w.heap.size, 0, none⟩ = some (.string x.1) := by rw [Lib.cell_of_heap e3]; rfl
  have y1 : w3.cell? ⟨w.heap.size, 1, none⟩ = some (.string x.2) := by rw [Lib.cell_of_heap e3]; rfl
  clear hb e3 x0 x1 HCA
  go_wp2_with fail
  have HST := hid (show ∃ V k, V.length = 1 ∧ Wst w (w3.alloc (.cells #[.string x.1, .string x.2] 25)) (reqQ Q L) T x mb (.slice (some ⟨w3.heap.size, 0, none⟩) 1 1) k V from by
    obtain ⟨k, hk, ek⟩ := whoT_mem.1 (cameB_iff.1 ((HCM.out.cameB x).2 HRC.out))
    have hBb := (Below.refl w3.heap.size w3).alloc (Nat.le_refl _) (.cells #[.string x.1, .string x.2] 25)
    refine ⟨[x], k, rfl, HB3.out.trans (hBb.mono HB3.out.size), ?_, by simp; omega, ⟨hk, ?_⟩, HBY3.out.below hBb, ?_⟩
    · rw [List.reverse_singleton, ← ek]; exact Wy.start hk
    · rw [ek]; exact (hBb.block _ (lt_of_blk HE3.out)).trans HE3.out
    · exact ⟨rfl, Or.inr ⟨w3.heap.size, 1, #[.string x.1, .string x.2], rfl, lt_of_blk HE3.out, heap_new w3 _, Nat.le_refl _, by unfold maxLen; omega, rfl, rfl⟩⟩)
  generalize w3.alloc (.cells #[.string x.1, .string x.2] 25) = w4 at *
  generalize (some ⟨w3.heap.size, 0, none⟩ : Option Addr) = sa0 at *
  have HTL := hid (show T.length ≤ 1000 by have := HCM.out.b.len; rw [univ_len] at this; omega)
  clear y0 y1
  go_loopw [10] (fun yv wr => ∃ (sa : Option Addr) (n sc : Nat), yv = .slice sa n sc ∧ Hid (∃ V k, V.length = n ∧ Wst w wr (reqQ Q L) T x mb (.slice sa n sc) k V)) (fun yv _ => T.length + 1 - lenOf yv)
  case atStart => exact ⟨sa0, 1, 1, rfl, HST⟩
  case round =>
    obtain ⟨sa, n, sc, rfl, HS⟩ := hrel
    obtain ⟨V, k, hVn, hst⟩ := HS.out
    have HVN := hid hVn
    have HW := hid hst
    obtain ⟨hk, hxc⟩ := hst.xc
    have xx0 : wr.cell? ⟨w.heap.size, 0, none⟩ = some (.string T[k].1.1) := by rw [Lib.cell_of_heap hxc]; rfl
    have xx1 : wr.cell? ⟨w.heap.size, 1, none⟩ = some (.string T[k].1.2) := by rw [Lib.cell_of_heap hxc]; rfl
    have hlk0 : ∀ q, (Instr.lookup 72 (.map (some mb)) (.agg #[.string T[k].1.1, .string T[k].1.2]) false).run Tryz.prog (wr.drewN q) = .ok (.agg #[.string T[k].2.1, .string T[k].2.2]) (wr.drewN q) := fun q => look_at (hst.mp.below (below_drawn _ q)) HSZ.out HCM.out.b.nd hk
    have hne0 := fun W => modNeq T[k].1.1 T[k].1.2 T[k].2.1 T[k].2.2 W
    have HXC := hid hxc
    have HBY := hid (HCM.out.b.by_ k hk)
    have HOK := hid (fun e => hst.ok HCM.out hk e)
    have HMO := hid (fun (W w6 : World) (yv' : Value) (o : Obj) (h : Wst w W (reqQ Q L) T x mb (.slice sa n sc) k V) j hj e1 e2 hown hg => Wst.more (w6 := w6) (yv' := yv') (o := o) h hk (j := j) hj e1 e2 hown hg)
    have HKL := hid hk
    by_cases hsame : T[k].1 = T[k].2
    · have HOK2 := hid (HOK.out hsame)
      rw [decide_eq_true ⟨congrArg Prod.fst hsame, congrArg Prod.snd hsame⟩] at hne0
      simp only [Bool.not_true] at hne0
      have hV0 : 0 < n := by have := HOK2.out.pos; rw [List.length_reverse, HVN.out] at this; exact this
      have HR0 := hid hst.row
      clear hsame hst hxc hVn HMO HBY HOK HXC
      obtain ⟨p1, p2, f1, f2, x0, x1, hlk, hne⟩ : ∃ p1 p2 f1 f2, wr.cell? ⟨w.heap.size, 0, none⟩ = some (.string p1) ∧ wr.cell? ⟨w.heap.size, 1, none⟩ = some (.string p2) ∧ (∀ q, (Instr.lookup 72 (.map (some mb)) (.agg #[.string p1, .string p2]) false).run Tryz.prog (wr.drewN q) = .ok (.agg #[.string f1, .string f2]) (wr.drewN q)) ∧ ∀ W, (binOp .neq 25 (.agg #[.string p1, .string p2]) (.agg #[.string f1, .string f2])).run Tryz.prog W = .ok (.bool false) W := ⟨_, _, _, _, xx0, xx1, hlk0, hne0⟩
      clear xx0 xx1 hlk0 hne0
      go_wp2_with fail
      go_quiet (fail)
      have HW5 := hid (HW.out.below (below_drawn _ nq))
      generalize wr.drewN nq = w5 at *
      obtain ⟨g, cap, hg⟩ : ∃ g cap, (Value.slice sa n sc) = .slice (some ⟨g, 0, none⟩) n cap := by
        obtain ⟨_, ⟨h1, h2⟩ | ⟨g, cap, cur, q1, _⟩⟩ := HR0.out
        · rw [HVN.out] at h2; omega
        · rw [HVN.out] at q1; exact ⟨g, cap, q1⟩
      injection hg with hg1 _ hg3
      subst hg1
      subst hg3
      have HRV := hid (rev_any V g sc (w.heap.size + 1) w5 (by have := HVN.out; have := HW.out.ln; have := HTL.out; omega) (by rw [HVN.out]; have := HW5.out.row; rw [HVN.out] at this; exact this))
      rw [HVN.out] at HRV
      go_wp2_with fail
      refine HRV.out.mono ?_
      rintro e w6 ⟨rfl, hms, hgr⟩
      have HMS := hid hms
      have HB6 := hid (show Below w.heap.size w w6 from HW5.out.bl.grown hgr HW5.out.bl.size (fun q hq => by cases hq; have := (HW5.out.row.lt g rfl).1; omega))
      have HYL := hid (show V.reverse.length ≤ 1000 by rw [List.length_reverse]; have := HW.out.ln; have := HTL.out; omega)
      clear hms hgr
      go_wp2_with fail
      go_ret2
      exact ⟨_, rfl, V.reverse, HMS.out, HOK2.out, HYL.out, HB6.out⟩
    · have hne1 := fun W => modNeq_ne hsame W
      obtain ⟨j, hj, e1, e2⟩ : ∃ j, ∃ hj : j < k, (T[j]'(Nat.lt_trans hj hk)).1 = T[k].2 ∧ T[k].1 ∈ reqQ Q L T[k].2 := by
        rcases HBY.out with h | h
        · exact absurd h.1 hsame
        · exact h
      have HMO2 := hid (fun (W w6 : World) (yv' : Value) (o : Obj) (h : Wst w W (reqQ Q L) T x mb (.slice sa n sc) k V) hown hg => HMO.out W w6 yv' o h j hj e1 e2 hown hg)
      clear hst hVn HMO HBY HOK e1 e2
      have HRB := hid (fun W (h : Wst w W (reqQ Q L) T x mb (.slice sa n sc) k V) => h.xc)
      obtain ⟨f, p1, p2, x0, x1, hlk, hne, hmo⟩ : ∃ (f : Bm) (p1 p2 : ByteArray), wr.cell? ⟨w.heap.size, 0, none⟩ = some (.string p1) ∧ wr.cell? ⟨w.heap.size, 1, none⟩ = some (.string p2) ∧ (∀ q, (Instr.lookup 72 (.map (some mb)) (.agg #[.string p1, .string p2]) false).run Tryz.prog (wr.drewN q) = .ok (.agg #[.string f.1, .string f.2]) (wr.drewN q)) ∧ (∀ W, (binOp .neq 25 (.agg #[.string p1, .string p2]) (.agg #[.string f.1, .string f.2])).run Tryz.prog W = .ok (.bool true) W) ∧
        (∀ (W w6 : World) (yv' : Value) (o : Obj), Wst w W (reqQ Q L) T x mb (.slice sa n sc) k V → w6.ownsRow (w.heap.size + 1) 25 2 yv' (V.length + 1) (flatM V ++ [.string f.1, .string f.2]) → ((putM W w.heap.size f).alloc o).grownBy w6 (Value.slice sa n sc).ownBlock → Wst w w6 (reqQ Q L) T x mb yv' j (V ++ [f])) := ⟨T[k].2, _, _, xx0, xx1, hlk0, hne1, HMO2.out⟩
      clear xx0 xx1 hlk0 hne0 hne1
      have HMOR := hid hmo
      clear hmo HMO2
      have HEX := hid (show ∃ c0 c1, wr.heap[w.heap.size]? = some (.cells #[c0, c1] 25 (0, 0)) from ⟨_, _, HXC.out⟩)
      clear hxc HXC hsame hk
      go_wp2_with fail
      go_quiet (fail)
      have HW5 := hid (HW.out.below (below_drawn _ nq))
      have HEX5 := hid (show ∃ c0 c1, (wr.drewN nq).heap[w.heap.size]? = some (.cells #[c0, c1] 25 (0, 0)) from HEX.out)
      have u0 : (wr.drewN nq).cell? ⟨w.heap.size, 0, none⟩ = some (.string p1) := x0
      have u1 : (wr.drewN nq).cell? ⟨w.heap.size, 1, none⟩ = some (.string p2) := x1
      have ulk := hlk nq
      generalize wr.drewN nq = w5 at *
      clear x0 x1 hlk hne
      have uf : ∀ o, w5.frozen? ⟨w.heap.size, o, none⟩ = false := fun o => by
        obtain ⟨c0, c1, h⟩ := HEX5.out
        simp [World.frozen?, h]
      have HOV := hid (putM_owns f HW5.out.row)
      have hsz : w.heap.size ≤ w5.heap.size := HW5.out.bl.size
      rw [HVN.out] at HOV
      have HPM := hid (show putM w5 w.heap.size f = (w5.setCell ⟨w.heap.size, 0, none⟩ (.string f.1)).setCell ⟨w.heap.size, 1, none⟩ (.string f.2) from rfl)
      rw [HPM.out] at HOV
      have hn1000 : n ≤ 1000 := by have := HVN.out; have := HW.out.ln; have := HTL.out; omega
      have hlt1 : w.heap.size + 1 ≤ w5.heap.size := by
        obtain ⟨c0, c1, h⟩ := HEX5.out
        exact lt_of_blk h
      go_wp2_with (at_builtin; refine wpList_append_own _ rfl _ _ 23 rfl (w.heap.size + 1) 25 i0 _ 2 32 Tryz.underlying23 hi0 hz0 hz1 hz2 rfl (by decide) _ _ _ rfl (HOV.out.alloc _) ⟨w5.heap.size, 0, none⟩ 1 1 [.string f.1, .string f.2] rfl rfl ?c1 ?c2 ?c3 ?c4 ?c5 ?_)
      case c1 =>
        have h2 := heap_alloc_new ((w5.setCell ⟨w.heap.size, 0, none⟩ (.string f.1)).setCell ⟨w.heap.size, 1, none⟩ (.string f.2)) (.cells #[.string f.1, .string f.2] 25)
        rw [show ((w5.setCell ⟨w.heap.size, 0, none⟩ (.string f.1)).setCell ⟨w.heap.size, 1, none⟩ (.string f.2)).heap.size = w5.heap.size by simp [World.setCell]] at h2
        exact World.news_of_block (cs := #[.string f.1, .string f.2]) (t := 25) (fr := (0, 0)) h2
      case c2 =>
        intro u hu
        simp at hu
        rcases hu with rfl | rfl <;> rfl
      case c3 => unfold maxLen; omega
      case c4 => omega
      case c5 => simp [World.setCell]; omega
      intro v' w6 hown hgrow _
      have HNW := hid (show ∃ V k, V.length = n + 1 ∧ Wst w w6 (reqQ Q L) T x mb v' k V from ⟨V ++ [f], j, by simp [HVN.out], HMOR.out w5 w6 v' _ HW5.out (by rw [HVN.out]; exact hown) (by rw [HPM.out]; exact hgrow)⟩)
      obtain ⟨va, vc, hv⟩ := own_slN hown
      subst hv
      have HME := hid (show T.length + 1 - (n + 1) < T.length + 1 - n by have := HVN.out; have := HW.out.ln; omega)
      clear hown hgrow
      go_wp2_with fail
      go_roundw
      case rel => exact ⟨va, n + 1, vc, rfl, HNW⟩
      case measure => exact HME.out
end Ve
end Go.Proofs.YtffjaliegglddaaGreatDoor

/-
  What small and reached of the statements answer: the closed fact holds.
-/
namespace Go.Proofs.YtffjaliegglddaaGreatDoor
open Go.RowKit Go.Maps
namespace Ve

def ma0 : Bm := (⟨#[97]⟩, ⟨#[118, 49, 46, 48, 46, 48]⟩)
def ma1 : Bm := (⟨#[97]⟩, ⟨#[118, 49, 46, 49, 46, 48]⟩)
def mb0 : Bm := (⟨#[98]⟩, ⟨#[118, 48, 46, 49, 46, 48]⟩)
def smL : List Ent := [(ma0, [], [], false), (ma1, [mb0], [], false), (mb0, [], [], false)]
def smQ (g : Nat) : List Raw := [(ma0, .slice none 0 0, .slice none 0 0, false), (ma1, .slice (some ⟨g, 0, none⟩) 1 1, .slice none 0 0, false), (mb0, .slice none 0 0, .slice none 0 0, false)]
theorem pk_nilS : packErr (bl []) = 0 := pk_ok (by decide) rfl (by simp [risB, srtB, bl, Lib.compact, Lib.compactUpTo])
theorem sm_e0 : entE smL 0 = 0 := by
  show entW none _ = 0
  rw [entW_none (by kernel_rfl), entR_pack (by decide) (by kernel_rfl)]
  exact pk_nilS
theorem sm_e1 : entE smL 1 = 0 := by
  show entW (some _) _ = 0
  rw [entW_some (by kernel_rfl) (by kernel_rfl), entR_pack (by decide) (by kernel_rfl)]
  exact pk_nilS
theorem sm_e2 : entE smL 2 = 0 := by
  show entW (some _) _ = 0
  rw [entW_some (by kernel_rfl) (by kernel_rfl), entR_pack (by decide) (by kernel_rfl)]
  exact pk_nilS
theorem sm_chk (g : Nat) : chk (smQ g) smL = (0, none) := by
  have h2 : ∀ j, j < 3 → entE smL j = 0 := fun j hj => by
    rcases (by omega : j = 0 ∨ j = 1 ∨ j = 2) with rfl | rfl | rfl
    · exact sm_e0
    · exact sm_e1
    · exact sm_e2
  have h : fstE (entE smL) smL.length = none := fstE_none h2
  rw [chk_reqs (by decide) h]
  exact Prod.ext (show codeE (reqE2 (smQ g) smL) smL.length = 0 by kernel_rfl) (show fstE (reqE2 (smQ g) smL) smL.length = none by kernel_rfl)
theorem sm_chkG (g : Nat) : (chkG (smQ g) smL [ma1]).1 = 0 := by
  rw [chkG_ok (by rw [sm_chk])]
  show codeE (nonE (smQ g) [ma1]) 1 = 0
  kernel_rfl
theorem sm_r1 (g : Nat) : reqQ (smQ g) smL ma1 = [mb0] := by kernel_rfl
theorem sm_rb (g : Nat) : reqQ (smQ g) smL mb0 = [] := by kernel_rfl
theorem sm_rch {g : Nat} {m : Bm} (h : Rch (reqQ (smQ g) smL) [ma1] m) : m = ma1 ∨ m = mb0 := by
  induction h with
  | root hr => simp at hr; exact Or.inl hr
  | step _ hr ih =>
    rcases ih with rfl | rfl
    · rw [sm_r1] at hr; simp at hr; exact Or.inr hr
    · rw [sm_rb] at hr; simp at hr
theorem sm_go {g : Nat} {T : By} (h : Came (reqQ (smQ g) smL) (univ smL) [ma1] T) : goM T (smQ g) = [ma1, mb0] := by
  have c1 : cameB T ma1 = true := (h.cameB _).2 (.root (by simp))
  have cb : cameB T mb0 = true := (h.cameB _).2 (.step (.root (List.mem_singleton.2 rfl)) (by rw [sm_r1]; simp))
  have c0 : cameB T ma0 = false := by
    cases hc : cameB T ma0 with
    | false => rfl
    | true =>
      rcases sm_rch ((h.cameB _).1 hc) with e | e
      · exact absurd (congrArg (fun m : Bm => m.2.data) e) (by decide)
      · exact absurd (congrArg (fun m : Bm => m.1.data) e) (by decide)
  unfold goM goQ smQ
  simp [c0, c1, cb]
theorem sm_ixs {W : World} {g q : Nat} (hb : W.heap[q]? = some (.cells #[.string ⟨#[97]⟩, .string ⟨#[118, 49, 46, 48, 46, 48]⟩, .slice none 0 0, .slice none 0 0, .bool false, .string ⟨#[97]⟩, .string ⟨#[118, 49, 46, 49, 46, 48]⟩, .slice (some ⟨g, 0, none⟩) 1 1, .slice none 0 0, .bool false, .string ⟨#[98]⟩, .string ⟨#[118, 48, 46, 49, 46, 48]⟩, .slice none 0 0, .slice none 0 0, .bool false] 45 (0, 0)))
    (hg : W.heap[g]? = some (.cells #[.string ⟨#[98]⟩, .string ⟨#[118, 48, 46, 49, 46, 48]⟩] 25 (0, 0))) :
    Ixs W (.slice (some ⟨q, 0, none⟩) 3 3) (smQ g) smL := by
  have msn : MsAt W (.slice none 0 0) [] := ⟨none, 0, rfl, Nat.le_refl _, fun h => absurd rfl h⟩
  have txn : TxAt W (.slice none 0 0) [] := ⟨none, 0, rfl, Nat.le_refl _, fun h => absurd rfl h⟩
  have msb : MsAt W (.slice (some ⟨g, 0, none⟩) 1 1) [mb0] := ⟨some ⟨g, 0, none⟩, 1, rfl, Nat.le_refl _, fun _ => ⟨g, 0, rfl, fun j hj => by
    have : j = 0 := by simp at hj; exact hj
    subst this
    refine ⟨?_, ?_⟩ <;> (rw [Lib.cell_of_heap hg]; rfl)⟩⟩
  refine ⟨⟨some ⟨q, 0, none⟩, 3, rfl, Nat.le_refl _, fun r hr => ?_, fun _ => ⟨q, 0, rfl, fun j hj => ?_⟩⟩, rfl, fun j h1 h2 => ?_⟩
  · have : r = (ma0, .slice none 0 0, .slice none 0 0, false) ∨ r = (ma1, .slice (some ⟨g, 0, none⟩) 1 1, .slice none 0 0, false) ∨ r = (mb0, .slice none 0 0, .slice none 0 0, false) := by simpa [smQ] using hr
    rcases this with rfl | rfl | rfl
    · exact ⟨⟨none, 0, 0, rfl⟩, none, 0, 0, rfl⟩
    · exact ⟨⟨_, _, _, rfl⟩, none, 0, 0, rfl⟩
    · exact ⟨⟨none, 0, 0, rfl⟩, none, 0, 0, rfl⟩
  · have hj2 : j < 3 := hj
    rcases (by omega : j = 0 ∨ j = 1 ∨ j = 2) with rfl | rfl | rfl
    · refine ⟨?_, ?_, ?_, ?_, ?_⟩ <;> (rw [Lib.cell_of_heap hb]; rfl)
    · refine ⟨?_, ?_, ?_, ?_, ?_⟩ <;> (rw [Lib.cell_of_heap hb]; rfl)
    · refine ⟨?_, ?_, ?_, ?_, ?_⟩ <;> (rw [Lib.cell_of_heap hb]; rfl)
  · have hj2 : j < 3 := h1
    rcases (by omega : j = 0 ∨ j = 1 ∨ j = 2) with rfl | rfl | rfl
    · exact ⟨rfl, msn, txn, rfl⟩
    · exact ⟨rfl, msb, txn, rfl⟩
    · exact ⟨rfl, msn, txn, rfl⟩
theorem sm_sh : ∀ e, e ∈ smL → ShE e := fun e he => by
  have : e = smL[0] ∨ e = smL[1] ∨ e = smL[2] := by simpa [smL] using he
  rcases this with rfl | rfl | rfl
  · exact ⟨by decide, by decide, by decide, fun m hm => (by cases hm), by decide, fun x hx => (by cases hx)⟩
  · exact ⟨by decide, by decide, by decide, fun m hm => (by have : m = mb0 := List.mem_singleton.1 hm
                                                            subst this; exact ⟨by decide, by decide⟩), by decide, fun x hx => (by cases hx)⟩
  · exact ⟨by decide, by decide, by decide, fun m hm => (by cases hm), by decide, fun x hx => (by cases hx)⟩
set_option maxHeartbeats 2000000 in
/-- pewholderlaw2.small. -/
theorem smallI_any (w : World) : Calls Tryz.prog 32 #[] w fun e w' => ∃ g q, e = .returned (.slice (some ⟨q, 0, none⟩) 3 3) ∧ Ixs w' (.slice (some ⟨q, 0, none⟩) 3 3) (smQ g) smL ∧ Below w.heap.size w w' := by
  go_enter Tryz.func32, Tryz.ntmps32
  go_wp2_with fail
  go_ret
  refine ⟨w.heap.size, w.heap.size + 1, rfl, ?_, ((Below.refl w.heap.size w).alloc (Nat.le_refl _) _).alloc (by simp) _⟩
  have h2 := heap_alloc_new (w.alloc (.cells #[.string ⟨#[98]⟩, .string ⟨#[118, 48, 46, 49, 46, 48]⟩] 25)) (.cells #[.string ⟨#[97]⟩, .string ⟨#[118, 49, 46, 48, 46, 48]⟩, .slice none 0 0, .slice none 0 0, .bool false, .string ⟨#[97]⟩, .string ⟨#[118, 49, 46, 49, 46, 48]⟩, .slice (some ⟨w.heap.size, 0, none⟩) 1 1, .slice none 0 0, .bool false, .string ⟨#[98]⟩, .string ⟨#[118, 48, 46, 49, 46, 48]⟩, .slice none 0 0, .slice none 0 0, .bool false] 45)
  rw [show (w.alloc (.cells #[.string ⟨#[98]⟩, .string ⟨#[118, 48, 46, 49, 46, 48]⟩] 25)).heap.size = w.heap.size + 1 by simp] at h2
  exact sm_ixs h2 (heap_old _ _ (heap_new w _))
set_option maxRecDepth 100000 in
set_option maxHeartbeats 2000000 in
/-- pewholderlaw2.reached. -/
theorem rdL_any (A : Nat → Addr) (m : Int) (w : World) (S : Te w A m) : Calls Tryz.prog 8 #[] w fun e w' => e = .returned (.bool true) ∧ Below w.heap.size w w' := by
  have HSM := hid smallI_any
  have HS := hid S
  clear S
  go_enter Tryz.func8, Tryz.ntmps8
  go_wp2_with fail
  refine (HSM.out w).mono ?_
  rintro e w1 ⟨g, q, rfl, hix, hb⟩
  have hBa := (Below.refl w1.heap.size w1).alloc (Nat.le_refl _) (.cells #[.string ⟨#[97]⟩, .string ⟨#[118, 49, 46, 49, 46, 48]⟩] 25)
  have hB1 := hb.trans (hBa.mono hb.size)
  have hms : MsAt (w1.alloc (.cells #[.string ⟨#[97]⟩, .string ⟨#[118, 49, 46, 49, 46, 48]⟩] 25)) (.slice (some ⟨w1.heap.size, 0, none⟩) 1 1) [ma1] := ⟨some ⟨w1.heap.size, 0, none⟩, 1, rfl, Nat.le_refl _, fun _ => ⟨w1.heap.size, 0, rfl, fun j hj => by
    have : j = 0 := by simp at hj; exact hj
    subst this
    refine ⟨?_, ?_⟩ <;> (rw [Lib.cell_of_heap (heap_alloc_new w1 _)]; rfl)⟩⟩
  have HRE := hid (reach_good (smQ g) smL [ma1] _ _ A m _ (by decide) (by decide) sm_sh (HS.out.below hB1) (hix.below hBa) hms (sm_chkG g))
  have HB1 := hid hB1
  clear hix hb hBa hms hB1
  go_wp2_with fail
  refine HRE.out.mono ?_
  rintro e w2 ⟨u, rfl, T, hcm, hown, hb⟩
  rw [sm_go hcm] at hown
  have HB2 := hid (HB1.out.trans (hb.mono HB1.out.size))
  have hms := own_ms (L := [ma1, mb0]) hown
  obtain ⟨ua, uc, hu, -⟩ := id hms
  subst hu
  obtain ⟨ub, uo, hua, k0, -⟩ := hms.cells (k := 0) (by decide)
  subst hua
  obtain ⟨ub', uo', hua, k1, -⟩ := hms.cells (k := 1) (by decide)
  injection hua with hua
  injection hua with e1 e2
  subst e1 e2
  have k0' : w2.cell? ⟨ub, uo, none⟩ = some (.string ⟨#[97]⟩) := k0
  have k1' : w2.cell? ⟨ub, uo + 2, none⟩ = some (.string ⟨#[98]⟩) := k1
  have s0 : ((⟨#[97]⟩ : ByteArray).toList == (⟨#[97]⟩ : ByteArray).toList) = true := by simp
  have s1 : ((⟨#[98]⟩ : ByteArray).toList == (⟨#[98]⟩ : ByteArray).toList) = true := by simp
  clear hcm hown hb hms k0 k1 HRE
  go_wp2_with fail
  go_ret
  exact ⟨rfl, HB2.out⟩
end Ve
end Go.Proofs.YtffjaliegglddaaGreatDoor

/-
  What LongMods of the statements answers, whatever its bound.
-/
namespace Go.Proofs.YtffjaliegglddaaGreatDoor
open Go.RowKit
namespace Ve

def okLN (N : Nat) (L : List Bm) : Bool := decide (L.length ≤ N) && L.all okM
theorem okLN_iff {N : Nat} {L : List Bm} (h : okLN N L = true) : L.length ≤ N ∧ ∀ m, m ∈ L → m.1.size ≤ 70 ∧ m.2.size ≤ 60 := by
  unfold okLN at h
  rw [Bool.and_eq_true] at h
  refine ⟨of_decide_eq_true h.1, fun m hm => ?_⟩
  have := List.all_eq_true.1 h.2 m hm
  unfold okM at this
  rw [Bool.and_eq_true] at this
  exact ⟨of_decide_eq_true this.1, of_decide_eq_true this.2⟩
set_option maxHeartbeats 1000000 in
theorem longN_some (N : Nat) (hN : N ≤ 1000) (L : List Bm) (b o c : Nat) (w : World) (hn : L.length ≤ N)
    (hc : ∀ j (h : j < L.length), w.cell? ⟨b, o + j * 2, none⟩ = some (.string L[j].1) ∧ w.cell? ⟨b, o + j * 2 + 1, none⟩ = some (.string L[j].2)) :
    Calls Tryz.prog 10 #[.slice (some ⟨b, o, none⟩) L.length c, .int .i64 (N : Int)] w fun e w' => e = .returned (.int .i64 (if okLN N L then 0 else 1)) ∧ w' = w := by
  have HC := hid hc
  have HO := hid (show okLN N L = L.all okM by unfold okLN; rw [decide_eq_true hn, Bool.true_and])
  have hn2 : ¬ (N : Int) < (L.length : Int) := by omega
  generalize hr : (if okLN N L then (0 : Int) else 1) = r
  have HR := hid hr
  clear hc hr
  go_enter Tryz.func10, Tryz.ntmps10
  go_wp2_with fail
  go_loop [5] (fun i => ∃ k : Nat, k ≤ L.length ∧ i = .int .i64 k ∧ Hid ((L.take k).all okM = true)) (fun i => L.length - (intOf i).toNat)
  case atStart => exact ⟨0, Nat.zero_le _, rfl, hid rfl⟩
  case round =>
    obtain ⟨k, hk, rfl, HA⟩ := hrel
    by_cases hlt : k < L.length
    · have hx := (HC.out k hlt).1
      have hy := (HC.out k hlt).2
      have HN := hid (fun h => all_take_next hlt HA.out h)
      have HX := hid (fun h => all_not hlt h)
      have HLT := hid hlt
      have hkI : (k : Int) < (L.length : Int) := by omega
      generalize L[k] = x at *
      clear hlt
      obtain ⟨p, v⟩ := x
      by_cases h1 : p.size ≤ 70
      · have h1' : ¬ (70 : Int) < (p.size : Int) := by omega
        by_cases h2 : v.size ≤ 60
        · have h2' : ¬ (60 : Int) < (v.size : Int) := by omega
          have HT := hid (HN.out (by unfold okM; rw [decide_eq_true h1, decide_eq_true h2]; rfl))
          go_wp2_with fail
          go_round
          case rel => exact ⟨k + 1, by have := HLT.out; omega, by go_num, HT⟩
          case measure => have := HLT.out; simp [intOf]; omega
        · have h2' : (60 : Int) < (v.size : Int) := by omega
          have HT := hid (HX.out (by unfold okM; rw [decide_eq_true h1, decide_eq_false h2]; rfl))
          go_wp2_with fail
          go_ret
          exact ⟨by rw [← HR.out, HO.out, HT.out]; rfl, rfl⟩
      · have h1' : (70 : Int) < (p.size : Int) := by omega
        have HT := hid (HX.out (by unfold okM; rw [decide_eq_false h1]; rfl))
        go_wp2_with fail
        go_ret
        exact ⟨by rw [← HR.out, HO.out, HT.out]; rfl, rfl⟩
    · have HT := hid (show L.all okM = true by have := HA.out; rw [List.take_of_length_le (by omega)] at this; exact this)
      go_wp2_with fail
      go_ret
      exact ⟨by rw [← HR.out, HO.out, HT.out]; rfl, rfl⟩
theorem longN_none (N : Nat) (a : Option Addr) (c : Nat) (w : World) : Calls Tryz.prog 10 #[.slice a 0 c, .int .i64 (N : Int)] w fun e w' => e = .returned (.int .i64 0) ∧ w' = w := by
  go_enter Tryz.func10, Tryz.ntmps10
  go_wp2_with fail
  go_loop [5] (fun i => i = .int .i64 0) (fun i => 0)
  case atStart => exact rfl
  case round =>
    obtain rfl := hrel
    go_wp2_with fail
    go_ret
    exact ⟨rfl, rfl⟩
theorem longN_many (N : Nat) (a : Option Addr) (n c : Nat) (w : World) (hn : N < n) : Calls Tryz.prog 10 #[.slice a n c, .int .i64 (N : Int)] w fun e w' => e = .returned (.int .i64 1) ∧ w' = w := by
  have hn2 : (N : Int) < (n : Int) := by omega
  go_enter Tryz.func10, Tryz.ntmps10
  go_wp2_with fail
  go_ret
  exact ⟨rfl, rfl⟩
theorem longN_any (N : Nat) (hN : N ≤ 1000) (L : List Bm) (v : Value) (w : World) (hv : MsAt w v L) : Calls Tryz.prog 10 #[v, .int .i64 (N : Int)] w fun e w' => e = .returned (.int .i64 (if okLN N L then 0 else 1)) ∧ w' = w := by
  obtain ⟨a, c, rfl, _, h⟩ := hv
  by_cases hn : L.length ≤ N
  · cases L with
    | nil => exact longN_none N a c w
    | cons x r =>
      obtain ⟨b, o, rfl, h2⟩ := h (by simp)
      exact longN_some N hN (x :: r) b o c w hn h2
  · have : okLN N L = false := by unfold okLN; rw [decide_eq_false hn]; rfl
    rw [this]
    exact longN_many N a L.length c w (by omega)

end Ve
end Go.Proofs.YtffjaliegglddaaGreatDoor

/-
  What FindOf of the document's answer says; whether a module is in a row.
-/
namespace Go.Proofs.YtffjaliegglddaaGreatDoor
open Go.RowKit Go.Maps
namespace Ve

def eqM (x m : Bm) : Bool := decide (x.1 = m.1 ∧ x.2 = m.2)
theorem eqM_iff {x m : Bm} : eqM x m = true ↔ x = m := by
  unfold eqM
  rw [decide_eq_true_iff]
  exact ⟨fun h => Prod.ext h.1 h.2, fun h => by rw [h]; exact ⟨rfl, rfl⟩⟩
theorem eqM_ne {x m : Bm} (h : x ≠ m) : eqM x m = false := by
  cases e : eqM x m with
  | false => rfl
  | true => exact absurd (eqM_iff.1 e) h
theorem eqM_run (x m : Bm) (W : World) : (binOp .eql 25 (.agg #[.string x.1, .string x.2]) (.agg #[.string m.1, .string m.2])).run Tryz.prog W = .ok (.bool (eqM x m)) W := modEql x.1 x.2 m.1 m.2 W
theorem neM_run (x m : Bm) (W : World) : (binOp .neq 25 (.agg #[.string x.1, .string x.2]) (.agg #[.string m.1, .string m.2])).run Tryz.prog W = .ok (.bool (!eqM x m)) W := modNeq x.1 x.2 m.1 m.2 W
/-- Is a module in a row? -/
def hasM (X : List Bm) (m : Bm) : Bool := X.any fun y => eqM y m
theorem hasM_iff {X : List Bm} {m : Bm} : hasM X m = true ↔ m ∈ X := by
  unfold hasM
  rw [List.any_eq_true]
  constructor
  · rintro ⟨y, hy, h⟩; rw [← eqM_iff.1 h]; exact hy
  · intro h; exact ⟨m, h, eqM_iff.2 rfl⟩
theorem hasM_next {X : List Bm} {k : Nat} (hk : k < X.length) (m : Bm) : hasM (X.take (k + 1)) m = (hasM (X.take k) m || eqM X[k] m) := by
  unfold hasM
  rw [List.take_succ_eq_append_getElem hk, List.any_append]
  simp
theorem hasM_nil (X : List Bm) (m : Bm) : hasM (X.take 0) m = false := by simp [hasM]
theorem hasM_all {X : List Bm} {k : Nat} (hk : ¬ k < X.length) (m : Bm) : hasM (X.take k) m = hasM X m := by rw [List.take_of_length_le (by omega)]
theorem idx_same {Q Q' : List Raw} (hl : Q.length = Q'.length) (h : ∀ j (h : j < Q.length) (h' : j < Q'.length), Q[j].1 = Q'[j].1) (m : Bm) : idxOf (isM m) Q = idxOf (isM m) Q' := by
  have e : ∀ j, idxE (isM m) Q j = idxE (isM m) Q' j := fun j => by
    unfold idxE
    by_cases hj : j < Q.length
    · have hj' : j < Q'.length := by omega
      rw [List.getElem?_eq_getElem hj, List.getElem?_eq_getElem hj']
      have : isM m Q[j] = isM m Q'[j] := by
        have := h j hj hj'
        unfold isM
        rw [this]
      simp only [this]
    · rw [List.getElem?_eq_none (by omega), List.getElem?_eq_none (by omega)]
  unfold idxOf
  rw [show idxE (isM m) Q = idxE (isM m) Q' from funext e, hl]
theorem ixs_same {w w' : World} {v v' : Value} {Q Q' : List Raw} {L : List Ent} (I : Ixs w v Q L) (I' : Ixs w' v' Q' L) (m : Bm) : idxOf (isM m) Q = idxOf (isM m) Q' :=
  idx_same (by rw [I.ln, I'.ln]) (fun j h h' => by
    have hj : j < L.length := by rw [← I.ln]; exact h
    rw [(I.ok j h hj).m, (I'.ok j h' hj).m]) m
set_option maxRecDepth 100000 in
set_option maxHeartbeats 1000000 in
theorem findOf_some (L : List Raw) (m : Bm) (b o c : Nat) (w : World) (hL : L.length ≤ 1000000)
    (hc : ∀ j (h : j < L.length), w.cell? ⟨b, o + j * 5, none⟩ = some (.string L[j].1.1) ∧ w.cell? ⟨b, o + j * 5 + 1, none⟩ = some (.string L[j].1.2)) :
    Calls Tryz.prog 18 #[.slice (some ⟨b, o, none⟩) L.length c, .agg #[.string m.1, .string m.2]] w fun e w' => e = .returned (.int .i64 (idxOf (isM m) L)) ∧ Below w.heap.size w w' := by
  have HC := hid hc
  have hgd := modGuard
  generalize hr : idxOf (isM m) L = r
  have HR := hid hr
  have HB0 := hid ((Below.refl w.heap.size w).alloc (Nat.le_refl _) (.cells #[.string m.1, .string m.2] 25))
  have HE0 := hid (heap_new w (.cells #[.string m.1, .string m.2] 25))
  clear hc hr
  go_enter Tryz.func18, Tryz.ntmps18
  go_wp2_with fail
  generalize hw1 : w.alloc (.cells #[.string m.1, .string m.2] 25) = w1 at *
  clear hw1
  go_loopw [5] (fun i wr => ∃ k : Nat, k ≤ L.length ∧ i = .int .i64 k ∧ Hid (∀ j (h : j < L.length), j < k → isM m L[j] = false) ∧ Hid (Below w1.heap.size w1 wr)) (fun i _ => L.length - (intOf i).toNat)
  case atStart => exact ⟨0, Nat.zero_le _, rfl, hid (fun j _ hj => absurd hj (by omega)), hid (Below.refl _ _)⟩
  case round =>
    obtain ⟨k, hk, rfl, HA, HB⟩ := hrel
    have HBw := hid (HB0.out.trans (HB.out.mono HB0.out.size))
    by_cases hlt : k < L.length
    · have x0 := cell_below HBw.out (HC.out k hlt).1
      have x1 := cell_below HBw.out (HC.out k hlt).2
      have hE : wr.heap[w.heap.size]? = some (.cells #[.string m.1, .string m.2] 25 (0, 0)) := (HB.out.block _ (lt_of_blk HE0.out)).trans HE0.out
      have y0 : wr.cell? ⟨w.heap.size, 0, none⟩ = some (.string m.1) := by rw [Lib.cell_of_heap hE]; rfl
      have y1 : wr.cell? ⟨w.heap.size, 1, none⟩ = some (.string m.2) := by rw [Lib.cell_of_heap hE]; rfl
      have HF := hid (fun h => idx_hit hlt HA.out h)
      have HN := hid (fun h => idx_next hlt HA.out h)
      have HEQ := hid (show isM m L[k] = eqM L[k].1 m from rfl)
      have hkI : (k : Int) < (L.length : Int) := by omega
      have HLT := hid hlt
      clear hE
      generalize L[k] = x at *
      clear hlt
      have heq := fun W => eqM_run x.1 m W
      cases he : eqM x.1 m with
      | false =>
        rw [he] at heq HEQ
        have HN2 := hid (HN.out HEQ.out)
        clear HF HN HEQ he
        go_wp2_with fail
        go_quiet (fail)
        go_wp2_with fail
        go_roundw
        case rel => first | exact ⟨k + 1, HLT.out, nr_idx k, HN2, hid (below_drawn_of HB.out _)⟩ | exact ⟨k + 1, HLT.out, nx_idx HLT.out hL, HN2, hid (below_drawn_of HB.out _)⟩
        case measure => first | exact nr_meas HLT.out | exact nx_meas HLT.out hL
      | true =>
        rw [he] at heq HEQ
        have HF2 := hid (HF.out HEQ.out)
        clear HF HN HEQ he
        go_wp2_with fail
        go_quiet (fail)
        go_wp2_with fail
        go_ret
        exact ⟨by rw [← HR.out, HF2.out]; rfl, below_drawn_of HBw.out _⟩
    · have HF := hid (show idxOf (isM m) L = -1 by unfold idxOf; rw [fstE_none (idxE_zero (Nat.le_refl _) (fun j hj _ => HA.out j hj (by omega)))])
      have hkI : ¬ (k : Int) < (L.length : Int) := by omega
      clear hlt
      go_wp2_with fail
      go_ret
      exact ⟨by rw [← HR.out, HF.out]; rfl, HBw.out⟩
/-- pewholderref1.FindOf, where there are entries. -/
theorem findOf_any (L : List Raw) (m : Bm) (v : Value) (w : World) (hL : L.length ≤ 1000000) (h0 : 0 < L.length) (hv : EsAt w v L) :
    Calls Tryz.prog 18 #[v, .agg #[.string m.1, .string m.2]] w fun e w' => e = .returned (.int .i64 (idxOf (isM m) L)) ∧ Below w.heap.size w w' := by
  obtain ⟨a, c, rfl, _, _, h⟩ := hv
  obtain ⟨b, o, rfl, h2⟩ := h (fun e => by rw [e] at h0; exact absurd h0 (Nat.lt_irrefl _))
  exact findOf_some L m b o c w hL (fun j hj => ⟨(h2 j hj).1, (h2 j hj).2.1⟩)
end Ve
end Go.Proofs.YtffjaliegglddaaGreatDoor

/-
  What is reached, in the order of an index; plain.
-/
namespace Go.Proofs.YtffjaliegglddaaGreatDoor
open Go.RowKit Go.Maps
namespace Ve

theorem goM_mem {w : World} {v : Value} {Q : List Raw} {L : List Ent} {roots : List Bm} {T : By} (I : Ixs w v Q L) (h : Came (reqQ Q L) (univ L) roots T) {m : Bm} : m ∈ goM T Q ↔ Rch (reqQ Q L) roots m := by
  constructor
  · intro hm
    obtain ⟨r, hr, rfl⟩ := List.mem_map.1 hm
    exact (h.cameB _).1 (List.mem_filter.1 hr).2
  · intro hm
    have hc := (h.cameB m).2 hm
    have hu := h.b.un m (cameB_iff.1 hc)
    obtain ⟨e, he, rfl⟩ := List.mem_map.1 hu
    obtain ⟨j, hj, rfl⟩ := List.getElem_of_mem he
    have hjq : j < Q.length := by rw [I.ln]; exact hj
    have hm1 := (I.ok j hjq hj).m
    refine List.mem_map.2 ⟨Q[j], List.mem_filter.2 ⟨List.getElem_mem hjq, ?_⟩, hm1⟩
    show cameB T Q[j].1 = true
    rw [hm1]
    exact hc
theorem goM_univ {w : World} {v : Value} {Q : List Raw} {L : List Ent} {T : By} (I : Ixs w v Q L) {m : Bm} (h : m ∈ goM T Q) : m ∈ univ L := by
  obtain ⟨r, hr, rfl⟩ := List.mem_map.1 h
  obtain ⟨j, hj, rfl⟩ := List.getElem_of_mem (List.mem_filter.1 hr).1
  obtain ⟨hj', e⟩ := ixs_get I hj
  exact List.mem_map.2 ⟨L[j], List.getElem_mem hj', e.symm⟩
theorem goM_same {Q : List Raw} {T T' : By} (h : ∀ m, cameB T m = cameB T' m) : goM T Q = goM T' Q := by
  unfold goM goQ
  rw [show (fun r : Raw => cameB T r.1) = fun r => cameB T' r.1 from funext fun r => h r.1]
theorem goM_len (T : By) (Q : List Raw) : (goM T Q).length ≤ Q.length := by
  unfold goM goQ
  rw [List.length_map]
  exact List.length_filter_le _ _
theorem chkG_in {w : World} {v : Value} {Q : List Raw} {L : List Ent} {R : List Bm} (I : Ixs w v Q L) (hc : (chk Q L).1 = 0) (h : ∀ m, m ∈ R → m ∈ univ L) : (chkG Q L R).1 = 0 := by
  rw [chkG_ok hc]
  have : fstE (nonE Q R) R.length = none := fstE_none fun j hj => by
    rw [nonE_at hj]
    unfold nonW
    obtain ⟨k, hk⟩ := (found_iff I R[j]).1 (h _ (List.getElem_mem hj))
    rw [hk, if_neg (by omega)]
  exact codeE_none this
/-- Of what is reached the same is reached. -/
theorem goM_again {w : World} {v : Value} {Q : List Raw} {L : List Ent} {roots : List Bm} {T T' : By} (I : Ixs w v Q L) (h : Came (reqQ Q L) (univ L) roots T) (h' : Came (reqQ Q L) (univ L) (goM T Q) T') : goM T' Q = goM T Q :=
  goM_same fun m => by
    have e : cameB T' m = true ↔ cameB T m = true := by
      rw [h'.cameB, h.cameB]
      exact Rch.again (fun m => goM_mem I h)
    cases h1 : cameB T' m with
    | true => exact (e.1 h1).symm
    | false =>
      cases h2 : cameB T m with
      | true => rw [e.2 h2] at h1; cases h1
      | false => rfl
end Ve
end Go.Proofs.YtffjaliegglddaaGreatDoor

/-
  Modules appended to an own row; the document's IsAhead; what is reached rises.
-/
namespace Go.Proofs.YtffjaliegglddaaGreatDoor
open Go.RowKit Go.Maps
namespace Ve

/-- A row of modules, appended to an own one. -/
theorem both_run (X Y : List Bm) (dv sv : Value) (W : World) (B : Nat) (hB : B ≤ W.heap.size) (hX : X.length ≤ 1000) (hY : Y.length ≤ 1000) (ho : W.ownsRow B 25 2 dv X.length (flatM X)) (h : MsAt W sv Y) (he : Em sv Y) :
    ∃ v' W', (Builtin.append_ #[23, 23] 23 #[dv, sv]).run Tryz.prog W = .ok v' W' ∧ W'.ownsRow B 25 2 v' (X ++ Y).length (flatM (X ++ Y)) ∧ W.grownBy W' dv.ownBlock := by
  obtain ⟨i0, hi, hz0, hz1, hz2⟩ := info_parts infoMod
  obtain ⟨a, c, rfl, hc, h2⟩ := h
  have some_case : ∀ a', (∀ j u, (flatM Y)[j]? = some u → W.cell? (a'.add j) = some u) → ∃ v' W', (Builtin.append_ #[23, 23] 23 #[dv, .slice (some a') Y.length c]).run Tryz.prog W = .ok v' W' ∧ W'.ownsRow B 25 2 v' (X ++ Y).length (flatM (X ++ Y)) ∧ W.grownBy W' dv.ownBlock := fun a' hcell => by
    obtain ⟨v', W', h3, h4, h5, _⟩ := run_append_own (P := Tryz.prog) W B 23 23 25 i0 _ 2 32 Tryz.underlying23 hi hz0 hz1 hz2 rfl (by decide) dv X.length (flatM X) ho a' Y.length c (flatM Y) (flatM_len Y) hcell (flat_one Y) (by unfold maxLen; omega) (by omega) hB
    exact ⟨v', W', h3, by rw [List.length_append, flatM_app]; exact h4, h5⟩
  cases Y with
  | nil =>
    rcases he a c rfl rfl with hz | ⟨a', hz⟩
    · refine ⟨dv, W, ?_, by simpa using ho, ⟨rfl, rfl, rfl, Nat.le_refl _, fun _ _ _ => rfl⟩⟩
      show (Builtin.append_ #[23, 23] 23 #[dv, .slice a 0 c]).run Tryz.prog W = _
      rw [hz]
      exact run_append_owned_none (P := Tryz.prog) (w := W) B 23 23 25 i0 2 Tryz.underlying23 hi dv X.length (flatM X) ho
    · have hz' : (Value.slice a ([] : List Bm).length c) = .slice (some a') ([] : List Bm).length c := hz
      rw [hz']
      exact some_case a' (fun j u hj => by simp [flatM] at hj)
  | cons x r =>
    obtain ⟨b, o, rfl, hcell⟩ := h2 (by simp)
    exact some_case ⟨b, o, none⟩ (fun j u hj => by rw [Addr.add_lit]; exact ms_flat hcell j u hj)
set_option maxHeartbeats 1000000 in
/-- pewholderref1.IsAhead. -/
theorem isA_any (a b : Bm) (w : World) (hv : a.2.size < 999999) (hu : b.2.size < 999999) :
    Calls Tryz.prog 86 #[.agg #[.string a.1, .string a.2], .agg #[.string b.1, .string b.2]] w fun e w' => e = .returned (.bool (mAhead a b)) ∧ Below w.heap.size w w' := by
  obtain ⟨p, v⟩ := a
  obtain ⟨q, u⟩ := b
  have HO := hid (show mAhead (p, v) (q, u) = if p.data.toList = q.data.toList then lessB v.data.toList u.data.toList else decide (Lib.compareBytes p.data.toList q.data.toList < 0) from rfl)
  have HB0 := hid (((Below.refl w.heap.size w).alloc (Nat.le_refl _) (.cells #[.string p, .string v] 25)).alloc (by simp) (.cells #[.string q, .string u] 25))
  simp only at hv hu
  by_cases h : p = q
  · subst h
    rw [if_pos rfl] at HO
    have he := str_refl p
    have HL := hid (fun W => isLess_any v u W hv hu)
    go_enter Tryz.func86, Tryz.ntmps86
    go_wp2_with fail
    refine (HL.out _).mono ?_
    rintro e w1 ⟨rfl, hb⟩
    have HB := hid (HB0.out.trans (hb.mono HB0.out.size))
    clear hb
    go_wp2_with fail
    go_ret
    exact ⟨ret_bool HO.out.symm, HB.out⟩
  · rw [if_neg (fun e => h (str_ext e))] at HO
    have he := str_ne h
    have HC := hid (show Op.bytesLess p.toList q.toList = decide (Lib.compareBytes p.data.toList q.data.toList < 0) by rw [cb_less, ByteArray.toList_eq, ByteArray.toList_eq])
    clear h
    go_enter Tryz.func86, Tryz.ntmps86
    go_wp2_with fail
    go_ret
    exact ⟨ret_bool (by rw [HO.out, ← HC.out]), HB0.out⟩
theorem univ_eq {w : World} {v : Value} {Q : List Raw} {L : List Ent} (I : Ixs w v Q L) : Q.map (fun r => r.1) = univ L := by
  apply List.ext_getElem
  · simp [univ, I.ln]
  · intro j h1 h2
    have hq : j < Q.length := by simpa using h1
    have hl : j < L.length := by rw [← I.ln]; exact hq
    simp only [univ, List.getElem_map]
    exact (I.ok j hq hl).m
theorem univ_rises {Q : List Raw} {L : List Ent} (h : (chk Q L).1 = 0) : (univ L).Pairwise fun a b => mAhead a b = true := by
  rw [List.pairwise_iff_getElem]
  intro i j hi hj hij
  have hi2 : i < L.length := by simpa [univ] using hi
  have hj2 : j < L.length := by simpa [univ] using hj
  obtain ⟨d, rfl⟩ : ∃ d, j = i + d + 1 := ⟨j - i - 1, by omega⟩
  have := ahead_all (chk_each0 h).2 d i hj2
  simpa [univ] using this
theorem goM_rises {w : World} {v : Value} {Q : List Raw} {L : List Ent} {T : By} (I : Ixs w v Q L) (h : (chk Q L).1 = 0) : (goM T Q).Pairwise fun a b => mAhead a b = true := by
  have h1 := univ_rises h
  rw [← univ_eq I] at h1
  have h2 : (goM T Q).Sublist (Q.map fun r => r.1) := by
    unfold goM goQ
    exact List.Sublist.map _ List.filter_sublist
  exact h1.sublist h2
/-- What two lists of roots reach together is what each of them reaches. -/
theorem came_app {req : Bm → List Bm} {U a b : List Bm} {Ta Tb Tc : By} (ha : Came req U a Ta) (hb : Came req U b Tb) (hc : Came req U (a ++ b) Tc) (m : Bm) : cameB Tc m = (cameB Ta m || cameB Tb m) := by
  rw [Bool.eq_iff_iff, Bool.or_eq_true, hc.cameB, ha.cameB, hb.cameB]
  exact Rch.app
theorem goM_has {w : World} {v : Value} {Q : List Raw} {L : List Ent} {T : By} (I : Ixs w v Q L) {m : Bm} (hm : m ∈ univ L) : hasM (goM T Q) m = cameB T m := by
  rw [Bool.eq_iff_iff, hasM_iff]
  constructor
  · intro h
    obtain ⟨r, hr, rfl⟩ := List.mem_map.1 h
    exact (List.mem_filter.1 hr).2
  · intro h
    obtain ⟨e, he, rfl⟩ := List.mem_map.1 hm
    obtain ⟨j, hj, rfl⟩ := List.getElem_of_mem he
    have hjq : j < Q.length := by rw [I.ln]; exact hj
    have hm1 := (I.ok j hjq hj).m
    refine List.mem_map.2 ⟨Q[j], List.mem_filter.2 ⟨List.getElem_mem hjq, ?_⟩, hm1⟩
    show cameB T Q[j].1 = true
    rw [hm1]
    exact h
end Ve
end Go.Proofs.YtffjaliegglddaaGreatDoor

/-
  What the document's answer says of an entry (entryError).
-/
namespace Go.Proofs.YtffjaliegglddaaGreatDoor
open Go.RowKit Go.Maps
namespace Ve

theorem es_all {W : World} {b o n c : Nat} {Q : List Raw} (h : EsAt W (.slice (some ⟨b, o, none⟩) n c) Q) {k : Nat} (hk : k < Q.length) : slR Q[k] ∧ W.cell? ⟨b, o + k * 5, none⟩ = some (.string Q[k].1.1) ∧ W.cell? ⟨b, o + k * 5 + 1, none⟩ = some (.string Q[k].1.2) ∧ W.cell? ⟨b, o + k * 5 + 2, none⟩ = some Q[k].2.1 ∧ W.cell? ⟨b, o + k * 5 + 3, none⟩ = some Q[k].2.2.1 ∧ W.cell? ⟨b, o + k * 5 + 4, none⟩ = some (.bool Q[k].2.2.2) := by
  obtain ⟨a', c', e, _, hs, h⟩ := h
  injection e with e1 e2 e3
  subst e1
  obtain ⟨b', o', e4, h4⟩ := h (by intro h0; rw [h0] at hk; simp at hk)
  injection e4 with e4
  injection e4 with e5 e6
  subst e5 e6
  exact ⟨hs _ (List.getElem_mem hk), h4 k hk⟩
theorem reqsR_code (own : ByteArray) (L : List Bm) : (reqsR own L).1 = codeE (reqE own L) L.length := by
  unfold reqsR codeE
  cases fstE (reqE own L) L.length <;> rfl
theorem pk_rise {Z : List (List UInt8)} (h : ¬ 10 < Z.length) (h1 : Z.any noPk = false) (h2 : rsT Z) : packErr Z = 0 := pk_ok h h1 ((ris_iff Z).2 h2)
theorem pk_fall {Z : List (List UInt8)} (h : ¬ 10 < Z.length) (h1 : Z.any noPk = false) (h2 : ¬ rsT Z) : packErr Z = 8 := pk_order h h1 (fun e => h2 ((ris_iff Z).1 e))
theorem any_noPk {X : List ByteArray} (h : ∀ j (h : j < X.length), noPk X[j].data.toList = false) : (bl X).any noPk = false := by
  cases e : (bl X).any noPk
  · rfl
  · obtain ⟨z, hz, h1⟩ := List.any_eq_true.1 e
    obtain ⟨j, hj, rfl⟩ := List.getElem_of_mem hz
    have hj2 : j < X.length := by rw [bl_len] at hj; exact hj
    have := h j hj2
    have e2 : (bl X)[j] = X[j].data.toList := by simp [bl]
    rw [e2, this] at h1; cases h1
theorem any_noPk' {X : List ByteArray} {j : Nat} (hj : j < X.length) (h : noPk X[j].data.toList = true) : (bl X).any noPk = true :=
  List.any_eq_true.2 ⟨X[j].data.toList, bl_mem (List.getElem_mem hj), h⟩
theorem rsT_of {X : List ByteArray} (h : ∀ j (h : j + 1 < X.length), noLess X[j] X[j + 1] = false) : rsT (bl X) := fun j hj => by
  have hj2 : j + 1 < X.length := by rw [bl_len] at hj; exact hj
  have h1 := h j hj2
  have e1 : (bl X)[j] = (X[j]'(by omega)).data.toList := by simp [bl]
  have e2 : (bl X)[j + 1] = X[j + 1].data.toList := by simp [bl]
  rw [e1, e2]
  unfold noLess at h1
  simpa using h1
theorem rsT_not {X : List ByteArray} {j : Nat} (hj : j + 1 < X.length) (h : noLess X[j] X[j + 1] = true) : ¬ rsT (bl X) := fun hr => by
  have h1 := hr j (by rw [bl_len]; exact hj)
  have e1 : (bl X)[j]'(by rw [bl_len]; omega) = (X[j]'(by omega)).data.toList := by simp [bl]
  have e2 : (bl X)[j + 1]'(by rw [bl_len]; exact hj) = X[j + 1].data.toList := by simp [bl]
  rw [e1, e2] at h1
  unfold noLess at h
  simp only [Bool.not_eq_true', decide_eq_false_iff_not] at h
  exact h h1
theorem TxAt.cells {W : World} {a : Option Addr} {n c : Nat} {X : List ByteArray} (h : TxAt W (.slice a n c) X) {k : Nat} (hk : k < X.length) : ∃ b o, a = some ⟨b, o, none⟩ ∧ ∀ j (h : j < X.length), W.cell? ⟨b, o + j, none⟩ = some (.string X[j]) := by
  obtain ⟨a', c', e, _, h⟩ := h
  injection e with e1 e2 e3
  subst e1
  exact h (by intro h0; rw [h0] at hk; simp at hk)
set_option maxRecDepth 100000 in
set_option maxHeartbeats 16000000 in
theorem entE0_any (Q : List Raw) (L : List Ent) (b o c : Nat) (w : World) (sh : ∀ e, e ∈ L → ShE e) (I : Ixs w (.slice (some ⟨b, o, none⟩) Q.length c) Q L) (h0 : 0 < L.length) :
    Calls Tryz.prog 60 #[.slice (some ⟨b, o, none⟩) Q.length c, .int .i64 0] w fun e w' => e = .returned (.int .i64 (entE L 0 : Nat)) ∧ Below w.heap.size w w' := by
  have hq : 0 < Q.length := by rw [I.ln]; exact h0
  obtain ⟨hsl, x0, x1, x2, x3, x4⟩ := es_all I.es hq
  simp only [Nat.zero_mul, Nat.add_zero] at x0 x1 x2 x3 x4
  have hok := fun W (h : Below w.heap.size w W) => (I.below h).ok 0 hq h0
  have HSH := hid (sh L[0] (List.getElem_mem h0))
  rw [entE_0 h0]
  generalize Q[0] = r at *
  generalize L[0] = en at *
  obtain ⟨⟨p, q⟩, rv, pv, bk⟩ := r
  obtain ⟨⟨p', q'⟩, eR, eP, bk'⟩ := en
  obtain ⟨hm, hrq, hpk, hbk⟩ := hok w (Below.refl _ _)
  simp only at hm hrq hpk hbk
  injection hm with hm1 hm2
  subst hm1 hm2 hbk
  obtain ⟨ra, rc, hrv, -⟩ := id hrq
  obtain ⟨pa, pc, hpv, -⟩ := id hpk
  subst hrv hpv
  have HRM := hid (fun W (h : Below w.heap.size w W) => hrq.below h)
  have HTX := hid (fun W (h : Below w.heap.size w W) => hpk.below h)
  have hqI : (0 : Int) < (Q.length : Int) := by omega
  clear I sh h0 hok hrq hpk hsl
  have HB0 := hid ((Below.refl w.heap.size w).alloc (Nat.le_refl _) (.cells #[.string p, .string q, .slice ra eR.length rc, .slice pa eP.length pc, .bool bk] 45))
  have HE0 := hid (heap_new w (.cells #[.string p, .string q, .slice ra eR.length rc, .slice pa eP.length pc, .bool bk] 45))
  have HM := hid (modError_any p q (w.alloc (.cells #[.string p, .string q, .slice ra eR.length rc, .slice pa eP.length pc, .bool bk] 45)) (by have := HSH.out.p; simp only at this; omega) (by have := HSH.out.v; simp only at this; omega))
  have hme : mErr (p, q) = modErr p.data.toList q.data.toList := rfl
  rw [← hme] at HM
  by_cases h : mErr (p, q) = 0
  · have HXR := hid (entW_none (e := ((p, q), eR, eP, bk)) h)
    rw [h] at HM
    clear h hme
    go_enter Tryz.func60, Tryz.ntmps60
    go_wp2_with fail
    refine HM.out.mono ?_
    rintro e wz ⟨rfl, hb⟩
    have HBz := hid (HB0.out.trans (hb.mono HB0.out.size))
    have HEz := hid (show wz.heap[w.heap.size]? = some (.cells #[.string p, .string q, .slice ra eR.length rc, .slice pa eP.length pc, .bool bk] 45 (0, 0)) by rw [hb.block _ (lt_of_blk HE0.out)]; exact HE0.out)
    clear hb HM
    have z0 : wz.cell? ⟨w.heap.size, 0, none⟩ = some (.string p) := by rw [Lib.cell_of_heap HEz.out]; rfl
    have z1 : wz.cell? ⟨w.heap.size, 1, none⟩ = some (.string q) := by rw [Lib.cell_of_heap HEz.out]; rfl
    have z2 : wz.cell? ⟨w.heap.size, 2, none⟩ = some (.slice ra eR.length rc) := by rw [Lib.cell_of_heap HEz.out]; rfl
    have z3 : wz.cell? ⟨w.heap.size, 3, none⟩ = some (.slice pa eP.length pc) := by rw [Lib.cell_of_heap HEz.out]; rfl
    have z4 : wz.cell? ⟨w.heap.size, 4, none⟩ = some (.bool bk) := by rw [Lib.cell_of_heap HEz.out]; rfl
    by_cases hf : 20 < eR.length
    · have q2 : (20 : Int) < (eR.length : Int) := by omega
      have HX := hid (HXR.out.trans (entR_full hf))
      clear hf
      go_wp2_with fail
      go_ret
      exact ⟨by rw [HX.out]; rfl, HBz.out⟩
    · have q2 : ¬ (20 : Int) < (eR.length : Int) := by omega
      have HF := hid hf
      have HRQ := hid (reqsE_any p eR _ wz HSH.out.rn HSH.out.rs (HRM.out _ HBz.out))
      rw [reqsR_code] at HRQ
      clear hf
      by_cases hc : codeE (reqE p eR) eR.length = 0
      · have HX := hid (HXR.out.trans (entR_pack HF.out hc))
        rw [hc] at HRQ
        clear hc
        go_wp2_with fail
        refine HRQ.out.mono ?_
        rintro e wy ⟨rfl, hb⟩
        have HBy := hid (HBz.out.trans (hb.mono HBz.out.size))
        have HEy := hid (show wy.heap[w.heap.size]? = some (.cells #[.string p, .string q, .slice ra eR.length rc, .slice pa eP.length pc, .bool bk] 45 (0, 0)) by rw [hb.block _ (lt_of_blk HEz.out)]; exact HEz.out)
        clear hb z0 z1 z2 z3 z4 HRQ
        have y0 : wy.cell? ⟨w.heap.size, 0, none⟩ = some (.string p) := by rw [Lib.cell_of_heap HEy.out]; rfl
        have y1 : wy.cell? ⟨w.heap.size, 1, none⟩ = some (.string q) := by rw [Lib.cell_of_heap HEy.out]; rfl
        have y2 : wy.cell? ⟨w.heap.size, 2, none⟩ = some (.slice ra eR.length rc) := by rw [Lib.cell_of_heap HEy.out]; rfl
        have y3 : wy.cell? ⟨w.heap.size, 3, none⟩ = some (.slice pa eP.length pc) := by rw [Lib.cell_of_heap HEy.out]; rfl
        have y4 : wy.cell? ⟨w.heap.size, 4, none⟩ = some (.bool bk) := by rw [Lib.cell_of_heap HEy.out]; rfl
        by_cases hp10 : 10 < eP.length
        · have q3 : (10 : Int) < (eP.length : Int) := by omega
          have HX2 := hid (HX.out.trans (pk_full (by rw [bl_len]; exact hp10)))
          clear hp10
          go_wp2_with fail
          go_ret
          exact ⟨by rw [HX2.out]; rfl, HBy.out⟩
        · have q3 : ¬ (10 : Int) < (eP.length : Int) := by omega
          have HP10 := hid (show ¬ 10 < (bl eP).length by rw [bl_len]; exact hp10)
          have hpl : eP.length ≤ 10 := by omega
          clear hp10
          go_wp2_with fail
          go_loopw [8] (fun kv wr => ∃ k : Nat, k ≤ eP.length ∧ kv = .int .i64 k ∧ Hid (∀ j (h : j < eP.length), j < k → noPk eP[j].data.toList = false) ∧ Hid (Below w.heap.size w wr) ∧ Hid (wr.heap[w.heap.size]? = some (.cells #[.string p, .string q, .slice ra eR.length rc, .slice pa eP.length pc, .bool bk] 45 (0, 0)))) (fun kv _ => eP.length - (intOf kv).toNat)
          case atStart => exact ⟨0, Nat.zero_le _, rfl, hid (fun j _ h => absurd h (Nat.not_lt_zero _)), HBy, HEy⟩
          case round =>
            clear y0 y1 y2 y3 y4
            obtain ⟨k, hk, rfl, HA, HBr, HEr⟩ := hrel
            have r0 : wr.cell? ⟨w.heap.size, 0, none⟩ = some (.string p) := by rw [Lib.cell_of_heap HEr.out]; rfl
            have r1 : wr.cell? ⟨w.heap.size, 1, none⟩ = some (.string q) := by rw [Lib.cell_of_heap HEr.out]; rfl
            have r2 : wr.cell? ⟨w.heap.size, 2, none⟩ = some (.slice ra eR.length rc) := by rw [Lib.cell_of_heap HEr.out]; rfl
            have r3 : wr.cell? ⟨w.heap.size, 3, none⟩ = some (.slice pa eP.length pc) := by rw [Lib.cell_of_heap HEr.out]; rfl
            have r4 : wr.cell? ⟨w.heap.size, 4, none⟩ = some (.bool bk) := by rw [Lib.cell_of_heap HEr.out]; rfl
            by_cases hlt : k < eP.length
            · have hkI : (k : Int) < (eP.length : Int) := by omega
              have hk0 : (0 : Int) ≤ (k : Int) := by omega
              obtain ⟨pb, po, hpa, hcl⟩ := (HTX.out _ HBr.out).cells hlt
              have t0 := hcl k hlt
              subst hpa
              have HLT := hid hlt
              have hsz := HSH.out.ps eP[k] (List.getElem_mem hlt)
              have HNX := hid (show noPk eP[k].data.toList = false → ∀ j (h : j < eP.length), j < k + 1 → noPk eP[j].data.toList = false from fun h0 j h1 h3 => by
                rcases Nat.lt_or_ge j k with h | h
                · exact HA.out j h1 h
                · have : j = k := by omega
                  subst this; exact h0)
              have HBD := hid (show noPk eP[k].data.toList = true → packErr (bl eP) = 1 from fun h => pk_text HP10.out (any_noPk' hlt h))
              generalize eP[k] = z at *
              clear hcl hlt
              by_cases hdot : z = ⟨#[46]⟩
              · subst hdot
                have s0 : ((⟨#[46]⟩ : ByteArray).toList == (⟨#[46]⟩ : ByteArray).toList) = true := by simp
                have HN2 := hid (HNX.out (by decide))
                go_wp2_with fail
                go_roundw
                case rel => first | exact ⟨k + 1, HLT.out, nr_idx k, HN2, HBr, HEr⟩ | exact ⟨k + 1, HLT.out, nx_idx HLT.out (by omega), HN2, HBr, HEr⟩
                case measure => first | exact nr_meas HLT.out | exact nx_meas HLT.out (by omega)
              · have hqd : (z.toList == [46]) = false := by rw [ByteArray.toList_eq]; exact beq_eq_false_iff_ne.2 (fun e => hdot (str_ext (by rw [e])))
                have hd2 : z.data.toList ≠ [46] := fun e => hdot (str_ext (by rw [e]))
                have HPE := hid (fun W => pathError_any z W (by omega))
                by_cases hpe : pathErr z.data.toList = 0
                · rw [hpe] at HPE
                  have HN2 := hid (HNX.out (by unfold noPk; simp [hpe]))
                  clear hpe hd2 hdot
                  go_wp2_with fail
                  refine (HPE.out _).mono ?_
                  rintro e wv ⟨rfl, hb⟩
                  have HBv := hid (HBr.out.trans (hb.mono HBr.out.size))
                  have HEv := hid ((hb.block _ (lt_of_blk HEr.out)).trans HEr.out)
                  clear hb
                  go_wp2_with fail
                  go_roundw
                  case rel => first | exact ⟨k + 1, HLT.out, nr_idx k, HN2, HBv, HEv⟩ | exact ⟨k + 1, HLT.out, nx_idx HLT.out (by omega), HN2, HBv, HEv⟩
                  case measure => first | exact nr_meas HLT.out | exact nx_meas HLT.out (by omega)
                · have HX2 := hid (HX.out.trans (HBD.out (by unfold noPk; simp [hpe, hd2])))
                  have hpos : (0 : Int) < ((pathErr z.data.toList : Nat) : Int) := by omega
                  generalize pathErr z.data.toList = pe at *
                  clear hpe hd2 hdot
                  go_wp2_with fail
                  refine (HPE.out _).mono ?_
                  rintro e wv ⟨rfl, hb⟩
                  have HBv := hid (HBr.out.trans (hb.mono HBr.out.size))
                  clear hb
                  go_wp2_with fail
                  go_ret
                  exact ⟨by rw [HX2.out]; rfl, HBv.out⟩
            · have hkI : ¬ (k : Int) < (eP.length : Int) := by omega
              have HNO := hid (show (bl eP).any noPk = false from any_noPk fun j h => HA.out j h (by omega))
              clear hlt
              go_wp2_with fail
              go_loopw [9] (fun kv wr => ∃ k : Nat, 1 ≤ k ∧ (k ≤ eP.length ∨ k = 1) ∧ kv = .int .i64 k ∧ Hid (∀ j (h : j + 1 < eP.length), j + 1 < k → noLess eP[j] eP[j + 1] = false) ∧ Hid (Below w.heap.size w wr) ∧ Hid (wr.heap[w.heap.size]? = some (.cells #[.string p, .string q, .slice ra eR.length rc, .slice pa eP.length pc, .bool bk] 45 (0, 0)))) (fun kv _ => eP.length - (intOf kv).toNat)
              case atStart => exact ⟨1, Nat.le_refl _, Or.inr rfl, rfl, hid (fun j _ h => by omega), HBr, HEr⟩
              case round =>
                clear r0 r1 r2 r3 r4
                obtain ⟨k2, hk1, hk2, rfl, HA2, HBs, HEs⟩ := hrel
                have s0 : wr.cell? ⟨w.heap.size, 0, none⟩ = some (.string p) := by rw [Lib.cell_of_heap HEs.out]; rfl
                have s1 : wr.cell? ⟨w.heap.size, 1, none⟩ = some (.string q) := by rw [Lib.cell_of_heap HEs.out]; rfl
                have s2 : wr.cell? ⟨w.heap.size, 2, none⟩ = some (.slice ra eR.length rc) := by rw [Lib.cell_of_heap HEs.out]; rfl
                have s3 : wr.cell? ⟨w.heap.size, 3, none⟩ = some (.slice pa eP.length pc) := by rw [Lib.cell_of_heap HEs.out]; rfl
                have s4 : wr.cell? ⟨w.heap.size, 4, none⟩ = some (.bool bk) := by rw [Lib.cell_of_heap HEs.out]; rfl
                by_cases hlt : k2 < eP.length
                · obtain ⟨j, rfl⟩ : ∃ j, k2 = j + 1 := ⟨k2 - 1, by omega⟩
                  have hkI2 : ((j + 1 : Nat) : Int) < (eP.length : Int) := by omega
                  have hkI3 : (j : Int) < (eP.length : Int) := by omega
                  have hk00 : (0 : Int) ≤ ((j + 1 : Nat) : Int) := by omega
                  have hk01 : (0 : Int) ≤ (j : Int) := by omega
                  have hk02 : ((j + 1 : Nat) : Int) - 1 = (j : Int) := by omega
                  have hwp : IntKind.i64.wrap (j : Int) = (j : Int) := by rw [IntKind.wrap_i64]; omega
                  have hk03 : (j : Int) + 1 - 1 = (j : Int) := by omega
                  obtain ⟨pb, po, hpa, hcl⟩ := (HTX.out _ HBs.out).cells hlt
                  have t0 := hcl (j + 1) hlt
                  have t1 := hcl j (by omega)
                  subst hpa
                  have HLT := hid hlt
                  have HNX := hid (show noLess eP[j] eP[j + 1] = false → ∀ i (h : i + 1 < eP.length), i + 1 < j + 1 + 1 → noLess eP[i] eP[i + 1] = false from fun h0 i h1 h3 => by
                    rcases Nat.lt_or_ge i j with h | h
                    · exact HA2.out i h1 (by omega)
                    · have : i = j := by omega
                      subst this; exact h0)
                  have HBD := hid (show noLess eP[j] eP[j + 1] = true → packErr (bl eP) = 8 from fun h => pk_fall HP10.out HNO.out (rsT_not hlt h))
                  generalize eP[j + 1] = za at *
                  generalize eP[j] = zb at *
                  have hle := fun X => leq_is za zb X
                  clear hcl hlt
                  cases hnl : noLess zb za
                  · rw [hnl] at hle
                    have HN2 := hid (HNX.out hnl)
                    clear hnl
                    go_wp2_with fail
                    go_quiet (fail)
                    have HBd := hid (below_drawn_of HBs.out nq)
                    have HEd := hid (show (wr.drewN nq).heap[w.heap.size]? = _ from HEs.out)
                    go_wp2_with fail
                    go_roundw
                    case rel => first | exact ⟨j + 1 + 1, by omega, Or.inl HLT.out, nr_idx (j + 1), HN2, HBd, HEd⟩ | exact ⟨j + 1 + 1, by omega, Or.inl HLT.out, nx_idx HLT.out (by omega), HN2, HBd, HEd⟩
                    case measure => first | exact nr_meas HLT.out | exact nx_meas HLT.out (by omega)
                  · rw [hnl] at hle
                    have HX2 := hid (HX.out.trans (HBD.out hnl))
                    clear hnl
                    go_wp2_with fail
                    go_quiet (fail)
                    have HBd := hid (below_drawn_of HBs.out nq)
                    go_wp2_with fail
                    go_ret
                    exact ⟨by rw [HX2.out]; rfl, HBd.out⟩
                · have hkI2 : ¬ (k2 : Int) < (eP.length : Int) := by omega
                  have HX2 := hid (HX.out.trans (pk_rise HP10.out HNO.out (rsT_of fun j h => HA2.out j h (by omega))))
                  clear hlt
                  go_wp2_with fail
                  go_ret
                  exact ⟨by rw [HX2.out]; rfl, HBs.out⟩
      · have HX := hid (HXR.out.trans (entR_req HF.out hc))
        have hpos : (0 : Int) < ((codeE (reqE p eR) eR.length : Nat) : Int) := by omega
        generalize codeE (reqE p eR) eR.length = cd at *
        clear hc
        go_wp2_with fail
        refine HRQ.out.mono ?_
        rintro e wy ⟨rfl, hb⟩
        have HBy := hid (HBz.out.trans (hb.mono HBz.out.size))
        clear hb
        go_wp2_with fail
        go_ret
        exact ⟨by rw [HX.out]; rfl, HBy.out⟩
  · have HX := hid (entW_bad (o := none) (e := ((p, q), eR, eP, bk)) h)
    have hpos : (0 : Int) < ((mErr (p, q) : Nat) : Int) := by omega
    generalize mErr (p, q) = z at *
    clear h hme
    go_enter Tryz.func60, Tryz.ntmps60
    go_wp2_with fail
    refine HM.out.mono ?_
    rintro e wz ⟨rfl, hb⟩
    have HBz := hid (HB0.out.trans (hb.mono HB0.out.size))
    clear hb HM
    go_wp2_with fail
    go_ret
    exact ⟨by rw [HX.out]; rfl, HBz.out⟩
set_option maxRecDepth 100000 in
set_option maxHeartbeats 16000000 in
theorem entE1_any (Q : List Raw) (L : List Ent) (b o c : Nat) (w : World) (sh : ∀ e, e ∈ L → ShE e) (I : Ixs w (.slice (some ⟨b, o, none⟩) Q.length c) Q L) (k : Nat) (h0 : k + 1 < L.length) (hn : L.length ≤ 1000) :
    Calls Tryz.prog 60 #[.slice (some ⟨b, o, none⟩) Q.length c, .int .i64 ((k + 1 : Nat) : Int)] w fun e w' => e = .returned (.int .i64 (entE L (k + 1) : Nat)) ∧ Below w.heap.size w w' := by
  have hq : k + 1 < Q.length := by rw [I.ln]; exact h0
  obtain ⟨hsl, x0, x1, x2, x3, x4⟩ := es_all I.es hq
  have hqk : k < Q.length := by omega
  have hlk : k < L.length := by omega
  obtain ⟨_, u0, u1, _, _, _⟩ := es_all I.es hqk
  have HPM := hid (show Q[k].1 = L[k].1 from (I.ok k hqk hlk).m)
  have HSK := hid (sh L[k] (List.getElem_mem hlk))
  have hok := fun W (h : Below w.heap.size w W) => (I.below h).ok (k + 1) hq h0
  have HSH := hid (sh L[k + 1] (List.getElem_mem h0))
  rw [entE_1 h0]
  generalize Q[k + 1] = r at *
  generalize L[k + 1] = en at *
  have hpv : (L[k]'hlk).1.2.size < 999999 := HSK.out.v
  rw [← HPM.out] at hpv ⊢
  generalize (Q[k]'hqk).1 = pm at *
  obtain ⟨pp, pq⟩ := pm
  simp only at u0 u1 hpv
  obtain ⟨⟨p, q⟩, rv, pv, bk⟩ := r
  obtain ⟨⟨p', q'⟩, eR, eP, bk'⟩ := en
  obtain ⟨hm, hrq, hpk, hbk⟩ := hok w (Below.refl _ _)
  simp only at hm hrq hpk hbk
  injection hm with hm1 hm2
  subst hm1 hm2 hbk
  obtain ⟨ra, rc, hrv, -⟩ := id hrq
  obtain ⟨pa, pc, hpv9, -⟩ := id hpk
  subst hrv hpv9
  have HRM := hid (fun W (h : Below w.heap.size w W) => hrq.below h)
  have HTX := hid (fun W (h : Below w.heap.size w W) => hpk.below h)
  have hqI : ((k + 1 : Nat) : Int) < (Q.length : Int) := by omega
  have hqJ : (0 : Int) ≤ ((k + 1 : Nat) : Int) := by omega
  have hqK : (0 : Int) < ((k + 1 : Nat) : Int) := by omega
  have hqL : ((k + 1 : Nat) : Int) - 1 = (k : Int) := by omega
  have hqM : (k : Int) < (Q.length : Int) := by omega
  have hqN : (0 : Int) ≤ (k : Int) := by omega
  have hwp : IntKind.i64.wrap (k : Int) = (k : Int) := by rw [IntKind.wrap_i64]; omega
  have hqO : (k : Int) + 1 - 1 = (k : Int) := by omega
  have hqP : (k : Int) + 1 < (Q.length : Int) := by omega
  have hqR : (0 : Int) ≤ (k : Int) + 1 := by omega
  have hqS : (0 : Int) < (k : Int) + 1 := by omega
  have hqT : ((k : Int) + 1).toNat = k + 1 := by omega
  clear I sh h0 hok hrq hpk hsl
  have HB0 := hid ((Below.refl w.heap.size w).alloc (Nat.le_refl _) (.cells #[.string p, .string q, .slice ra eR.length rc, .slice pa eP.length pc, .bool bk] 45))
  have HE0 := hid (heap_new w (.cells #[.string p, .string q, .slice ra eR.length rc, .slice pa eP.length pc, .bool bk] 45))
  have HM := hid (modError_any p q (w.alloc (.cells #[.string p, .string q, .slice ra eR.length rc, .slice pa eP.length pc, .bool bk] 45)) (by have := HSH.out.p; simp only at this; omega) (by have := HSH.out.v; simp only at this; omega))
  have hme : mErr (p, q) = modErr p.data.toList q.data.toList := rfl
  rw [← hme] at HM
  by_cases h : mErr (p, q) = 0
  · have H0 := hid h
    rw [h] at HM
    clear h hme
    go_enter Tryz.func60, Tryz.ntmps60
    go_wp2_with fail
    refine HM.out.mono ?_
    rintro e wx ⟨rfl, hb⟩
    have HBx := hid (HB0.out.trans (hb.mono HB0.out.size))
    have HEx := hid (show wx.heap[w.heap.size]? = some (.cells #[.string p, .string q, .slice ra eR.length rc, .slice pa eP.length pc, .bool bk] 45 (0, 0)) by rw [hb.block _ (lt_of_blk HE0.out)]; exact HE0.out)
    clear hb HM
    have HIA := hid (fun W => isA_any (pp, pq) (p, q) W hpv (by have := HSH.out.v; simp only at this ⊢; omega))
    have g0 := cell_below HBx.out u0
    have g1 := cell_below HBx.out u1
    have f0 : wx.cell? ⟨w.heap.size, 0, none⟩ = some (.string p) := by rw [Lib.cell_of_heap HEx.out]; rfl
    have f1 : wx.cell? ⟨w.heap.size, 1, none⟩ = some (.string q) := by rw [Lib.cell_of_heap HEx.out]; rfl
    have HT := hid (fun W' (hW : Below wx.heap.size wx W') => (show (fun W' => W'.cell? ⟨b, o + k * 5, none⟩ = some (.string pp) ∧ W'.cell? ⟨b, o + k * 5 + 1, none⟩ = some (.string pq) ∧ W'.cell? ⟨w.heap.size, 0, none⟩ = some (.string p) ∧ W'.cell? ⟨w.heap.size, 1, none⟩ = some (.string q) ∧ Hid (Below wx.heap.size wx W')) W' from ⟨cell_below hW g0, cell_below hW g1, cell_below hW f0, cell_below hW f1, hid hW⟩))
    cases hah : mAhead (pp, pq) (p, q)
    · have HX := hid (entW_order (p := (pp, pq)) (e := ((p, q), eR, eP, bk)) H0.out hah)
      rw [hah] at HIA
      clear hah
      go_wp2_with fail
      go_region_held (fun W' => W'.cell? ⟨b, o + k * 5, none⟩ = some (.string pp) ∧ W'.cell? ⟨b, o + k * 5 + 1, none⟩ = some (.string pq) ∧ W'.cell? ⟨w.heap.size, 0, none⟩ = some (.string p) ∧ W'.cell? ⟨w.heap.size, 1, none⟩ = some (.string q) ∧ Hid (Below wx.heap.size wx W')) (first | exact HT.out _ HRa.out | exact HT.out _ (below_drawn _ 1)) (first
        | (go_at_call 86; refine (HIA.out _).mono ?_; rintro e w' ⟨rfl, hb⟩; have HRa := hid ((below_drawn wx 1).trans (hb.mono (Nat.le_refl _))); clear hb))
      all_goals
        have HBz := hid (HBx.out.trans (HRa.out.mono HBx.out.size))
        go_wp2_with fail
        go_ret
        exact ⟨by rw [HX.out]; rfl, HBz.out⟩
    · have HXR := hid (entW_some (p := (pp, pq)) (e := ((p, q), eR, eP, bk)) H0.out hah)
      rw [hah] at HIA
      clear hah
      go_wp2_with fail
      go_region_held (fun W' => W'.cell? ⟨b, o + k * 5, none⟩ = some (.string pp) ∧ W'.cell? ⟨b, o + k * 5 + 1, none⟩ = some (.string pq) ∧ W'.cell? ⟨w.heap.size, 0, none⟩ = some (.string p) ∧ W'.cell? ⟨w.heap.size, 1, none⟩ = some (.string q) ∧ Hid (Below wx.heap.size wx W')) (first | exact HT.out _ HRa.out | exact HT.out _ (below_drawn _ 1)) (first
        | (go_at_call 86; refine (HIA.out _).mono ?_; rintro e w' ⟨rfl, hb⟩; have HRa := hid ((below_drawn wx 1).trans (hb.mono (Nat.le_refl _))); clear hb))
      all_goals
        have HBz := hid (HBx.out.trans (HRa.out.mono HBx.out.size))
        obtain ⟨wz, hwz⟩ : ∃ wz, w' = wz := ⟨_, rfl⟩
        rw [hwz] at HBz ⊢
        have HEz := hid (show wz.heap[w.heap.size]? = some (.cells #[.string p, .string q, .slice ra eR.length rc, .slice pa eP.length pc, .bool bk] 45 (0, 0)) by rw [← hwz, HRa.out.block _ (lt_of_blk HEx.out)]; exact HEx.out)
        clear hwz g0 g1 f0 f1
        have z0 : wz.cell? ⟨w.heap.size, 0, none⟩ = some (.string p) := by rw [Lib.cell_of_heap HEz.out]; rfl
        have z1 : wz.cell? ⟨w.heap.size, 1, none⟩ = some (.string q) := by rw [Lib.cell_of_heap HEz.out]; rfl
        have z2 : wz.cell? ⟨w.heap.size, 2, none⟩ = some (.slice ra eR.length rc) := by rw [Lib.cell_of_heap HEz.out]; rfl
        have z3 : wz.cell? ⟨w.heap.size, 3, none⟩ = some (.slice pa eP.length pc) := by rw [Lib.cell_of_heap HEz.out]; rfl
        have z4 : wz.cell? ⟨w.heap.size, 4, none⟩ = some (.bool bk) := by rw [Lib.cell_of_heap HEz.out]; rfl
        by_cases hf : 20 < eR.length
        · have q2 : (20 : Int) < (eR.length : Int) := by omega
          have HX := hid (HXR.out.trans (entR_full hf))
          clear hf
          go_wp2_with fail
          go_ret
          exact ⟨by rw [HX.out]; rfl, HBz.out⟩
        · have q2 : ¬ (20 : Int) < (eR.length : Int) := by omega
          have HF := hid hf
          have HRQ := hid (reqsE_any p eR _ wz HSH.out.rn HSH.out.rs (HRM.out _ HBz.out))
          rw [reqsR_code] at HRQ
          clear hf
          by_cases hc : codeE (reqE p eR) eR.length = 0
          · have HX := hid (HXR.out.trans (entR_pack HF.out hc))
            rw [hc] at HRQ
            clear hc
            go_wp2_with fail
            refine HRQ.out.mono ?_
            rintro e wy ⟨rfl, hb⟩
            have HBy := hid (HBz.out.trans (hb.mono HBz.out.size))
            have HEy := hid (show wy.heap[w.heap.size]? = some (.cells #[.string p, .string q, .slice ra eR.length rc, .slice pa eP.length pc, .bool bk] 45 (0, 0)) by rw [hb.block _ (lt_of_blk HEz.out)]; exact HEz.out)
            clear hb z0 z1 z2 z3 z4 HRQ
            have y0 : wy.cell? ⟨w.heap.size, 0, none⟩ = some (.string p) := by rw [Lib.cell_of_heap HEy.out]; rfl
            have y1 : wy.cell? ⟨w.heap.size, 1, none⟩ = some (.string q) := by rw [Lib.cell_of_heap HEy.out]; rfl
            have y2 : wy.cell? ⟨w.heap.size, 2, none⟩ = some (.slice ra eR.length rc) := by rw [Lib.cell_of_heap HEy.out]; rfl
            have y3 : wy.cell? ⟨w.heap.size, 3, none⟩ = some (.slice pa eP.length pc) := by rw [Lib.cell_of_heap HEy.out]; rfl
            have y4 : wy.cell? ⟨w.heap.size, 4, none⟩ = some (.bool bk) := by rw [Lib.cell_of_heap HEy.out]; rfl
            by_cases hp10 : 10 < eP.length
            · have q3 : (10 : Int) < (eP.length : Int) := by omega
              have HX2 := hid (HX.out.trans (pk_full (by rw [bl_len]; exact hp10)))
              clear hp10
              go_wp2_with fail
              go_ret
              exact ⟨by rw [HX2.out]; rfl, HBy.out⟩
            · have q3 : ¬ (10 : Int) < (eP.length : Int) := by omega
              have HP10 := hid (show ¬ 10 < (bl eP).length by rw [bl_len]; exact hp10)
              have hpl : eP.length ≤ 10 := by omega
              clear hp10
              go_wp2_with fail
              go_loopw [8] (fun kv wr => ∃ k : Nat, k ≤ eP.length ∧ kv = .int .i64 k ∧ Hid (∀ j (h : j < eP.length), j < k → noPk eP[j].data.toList = false) ∧ Hid (Below w.heap.size w wr) ∧ Hid (wr.heap[w.heap.size]? = some (.cells #[.string p, .string q, .slice ra eR.length rc, .slice pa eP.length pc, .bool bk] 45 (0, 0)))) (fun kv _ => eP.length - (intOf kv).toNat)
              case atStart => exact ⟨0, Nat.zero_le _, rfl, hid (fun j _ h => absurd h (Nat.not_lt_zero _)), HBy, HEy⟩
              case round =>
                clear y0 y1 y2 y3 y4
                obtain ⟨k, hk, rfl, HA, HBr, HEr⟩ := hrel
                have r0 : wr.cell? ⟨w.heap.size, 0, none⟩ = some (.string p) := by rw [Lib.cell_of_heap HEr.out]; rfl
                have r1 : wr.cell? ⟨w.heap.size, 1, none⟩ = some (.string q) := by rw [Lib.cell_of_heap HEr.out]; rfl
                have r2 : wr.cell? ⟨w.heap.size, 2, none⟩ = some (.slice ra eR.length rc) := by rw [Lib.cell_of_heap HEr.out]; rfl
                have r3 : wr.cell? ⟨w.heap.size, 3, none⟩ = some (.slice pa eP.length pc) := by rw [Lib.cell_of_heap HEr.out]; rfl
                have r4 : wr.cell? ⟨w.heap.size, 4, none⟩ = some (.bool bk) := by rw [Lib.cell_of_heap HEr.out]; rfl
                by_cases hlt : k < eP.length
                · have hkI : (k : Int) < (eP.length : Int) := by omega
                  have hk0 : (0 : Int) ≤ (k : Int) := by omega
                  obtain ⟨pb, po, hpa, hcl⟩ := (HTX.out _ HBr.out).cells hlt
                  have t0 := hcl k hlt
                  subst hpa
                  have HLT := hid hlt
                  have hsz := HSH.out.ps eP[k] (List.getElem_mem hlt)
                  have HNX := hid (show noPk eP[k].data.toList = false → ∀ j (h : j < eP.length), j < k + 1 → noPk eP[j].data.toList = false from fun h0 j h1 h3 => by
                    rcases Nat.lt_or_ge j k with h | h
                    · exact HA.out j h1 h
                    · have : j = k := by omega
                      subst this; exact h0)
                  have HBD := hid (show noPk eP[k].data.toList = true → packErr (bl eP) = 1 from fun h => pk_text HP10.out (any_noPk' hlt h))
                  generalize eP[k] = z at *
                  clear hcl hlt
                  by_cases hdot : z = ⟨#[46]⟩
                  · subst hdot
                    have s0 : ((⟨#[46]⟩ : ByteArray).toList == (⟨#[46]⟩ : ByteArray).toList) = true := by simp
                    have HN2 := hid (HNX.out (by decide))
                    go_wp2_with fail
                    go_roundw
                    case rel => first | exact ⟨k + 1, HLT.out, nr_idx k, HN2, HBr, HEr⟩ | exact ⟨k + 1, HLT.out, nx_idx HLT.out (by omega), HN2, HBr, HEr⟩
                    case measure => first | exact nr_meas HLT.out | exact nx_meas HLT.out (by omega)
                  · have hqd : (z.toList == [46]) = false := by rw [ByteArray.toList_eq]; exact beq_eq_false_iff_ne.2 (fun e => hdot (str_ext (by rw [e])))
                    have hd2 : z.data.toList ≠ [46] := fun e => hdot (str_ext (by rw [e]))
                    have HPE := hid (fun W => pathError_any z W (by omega))
                    by_cases hpe : pathErr z.data.toList = 0
                    · rw [hpe] at HPE
                      have HN2 := hid (HNX.out (by unfold noPk; simp [hpe]))
                      clear hpe hd2 hdot
                      go_wp2_with fail
                      refine (HPE.out _).mono ?_
                      rintro e wv ⟨rfl, hb⟩
                      have HBv := hid (HBr.out.trans (hb.mono HBr.out.size))
                      have HEv := hid ((hb.block _ (lt_of_blk HEr.out)).trans HEr.out)
                      clear hb
                      go_wp2_with fail
                      go_roundw
                      case rel => first | exact ⟨k + 1, HLT.out, nr_idx k, HN2, HBv, HEv⟩ | exact ⟨k + 1, HLT.out, nx_idx HLT.out (by omega), HN2, HBv, HEv⟩
                      case measure => first | exact nr_meas HLT.out | exact nx_meas HLT.out (by omega)
                    · have HX2 := hid (HX.out.trans (HBD.out (by unfold noPk; simp [hpe, hd2])))
                      have hpos : (0 : Int) < ((pathErr z.data.toList : Nat) : Int) := by omega
                      generalize pathErr z.data.toList = pe at *
                      clear hpe hd2 hdot
                      go_wp2_with fail
                      refine (HPE.out _).mono ?_
                      rintro e wv ⟨rfl, hb⟩
                      have HBv := hid (HBr.out.trans (hb.mono HBr.out.size))
                      clear hb
                      go_wp2_with fail
                      go_ret
                      exact ⟨by rw [HX2.out]; rfl, HBv.out⟩
                · have hkI : ¬ (k : Int) < (eP.length : Int) := by omega
                  have HNO := hid (show (bl eP).any noPk = false from any_noPk fun j h => HA.out j h (by omega))
                  clear hlt
                  go_wp2_with fail
                  go_loopw [9] (fun kv wr => ∃ k : Nat, 1 ≤ k ∧ (k ≤ eP.length ∨ k = 1) ∧ kv = .int .i64 k ∧ Hid (∀ j (h : j + 1 < eP.length), j + 1 < k → noLess eP[j] eP[j + 1] = false) ∧ Hid (Below w.heap.size w wr) ∧ Hid (wr.heap[w.heap.size]? = some (.cells #[.string p, .string q, .slice ra eR.length rc, .slice pa eP.length pc, .bool bk] 45 (0, 0)))) (fun kv _ => eP.length - (intOf kv).toNat)
                  case atStart => exact ⟨1, Nat.le_refl _, Or.inr rfl, rfl, hid (fun j _ h => by omega), HBr, HEr⟩
                  case round =>
                    clear r0 r1 r2 r3 r4
                    obtain ⟨k2, hk1, hk2, rfl, HA2, HBs, HEs⟩ := hrel
                    have s0 : wr.cell? ⟨w.heap.size, 0, none⟩ = some (.string p) := by rw [Lib.cell_of_heap HEs.out]; rfl
                    have s1 : wr.cell? ⟨w.heap.size, 1, none⟩ = some (.string q) := by rw [Lib.cell_of_heap HEs.out]; rfl
                    have s2 : wr.cell? ⟨w.heap.size, 2, none⟩ = some (.slice ra eR.length rc) := by rw [Lib.cell_of_heap HEs.out]; rfl
                    have s3 : wr.cell? ⟨w.heap.size, 3, none⟩ = some (.slice pa eP.length pc) := by rw [Lib.cell_of_heap HEs.out]; rfl
                    have s4 : wr.cell? ⟨w.heap.size, 4, none⟩ = some (.bool bk) := by rw [Lib.cell_of_heap HEs.out]; rfl
                    by_cases hlt : k2 < eP.length
                    · obtain ⟨j, rfl⟩ : ∃ j, k2 = j + 1 := ⟨k2 - 1, by omega⟩
                      have hkI2 : ((j + 1 : Nat) : Int) < (eP.length : Int) := by omega
                      have hkI3 : (j : Int) < (eP.length : Int) := by omega
                      have hk00 : (0 : Int) ≤ ((j + 1 : Nat) : Int) := by omega
                      have hk01 : (0 : Int) ≤ (j : Int) := by omega
                      have hk02 : ((j + 1 : Nat) : Int) - 1 = (j : Int) := by omega
                      have hwp : IntKind.i64.wrap (j : Int) = (j : Int) := by rw [IntKind.wrap_i64]; omega
                      have hk03 : (j : Int) + 1 - 1 = (j : Int) := by omega
                      obtain ⟨pb, po, hpa, hcl⟩ := (HTX.out _ HBs.out).cells hlt
                      have t0 := hcl (j + 1) hlt
                      have t1 := hcl j (by omega)
                      subst hpa
                      have HLT := hid hlt
                      have HNX := hid (show noLess eP[j] eP[j + 1] = false → ∀ i (h : i + 1 < eP.length), i + 1 < j + 1 + 1 → noLess eP[i] eP[i + 1] = false from fun h0 i h1 h3 => by
                        rcases Nat.lt_or_ge i j with h | h
                        · exact HA2.out i h1 (by omega)
                        · have : i = j := by omega
                          subst this; exact h0)
                      have HBD := hid (show noLess eP[j] eP[j + 1] = true → packErr (bl eP) = 8 from fun h => pk_fall HP10.out HNO.out (rsT_not hlt h))
                      generalize eP[j + 1] = za at *
                      generalize eP[j] = zb at *
                      have hle := fun X => leq_is za zb X
                      clear hcl hlt
                      cases hnl : noLess zb za
                      · rw [hnl] at hle
                        have HN2 := hid (HNX.out hnl)
                        clear hnl
                        go_wp2_with fail
                        go_quiet (fail)
                        have HBd := hid (below_drawn_of HBs.out nq)
                        have HEd := hid (show (wr.drewN nq).heap[w.heap.size]? = _ from HEs.out)
                        go_wp2_with fail
                        go_roundw
                        case rel => first | exact ⟨j + 1 + 1, by omega, Or.inl HLT.out, nr_idx (j + 1), HN2, HBd, HEd⟩ | exact ⟨j + 1 + 1, by omega, Or.inl HLT.out, nx_idx HLT.out (by omega), HN2, HBd, HEd⟩
                        case measure => first | exact nr_meas HLT.out | exact nx_meas HLT.out (by omega)
                      · rw [hnl] at hle
                        have HX2 := hid (HX.out.trans (HBD.out hnl))
                        clear hnl
                        go_wp2_with fail
                        go_quiet (fail)
                        have HBd := hid (below_drawn_of HBs.out nq)
                        go_wp2_with fail
                        go_ret
                        exact ⟨by rw [HX2.out]; rfl, HBd.out⟩
                    · have hkI2 : ¬ (k2 : Int) < (eP.length : Int) := by omega
                      have HX2 := hid (HX.out.trans (pk_rise HP10.out HNO.out (rsT_of fun j h => HA2.out j h (by omega))))
                      clear hlt
                      go_wp2_with fail
                      go_ret
                      exact ⟨by rw [HX2.out]; rfl, HBs.out⟩
          · have HX := hid (HXR.out.trans (entR_req HF.out hc))
            have hpos : (0 : Int) < ((codeE (reqE p eR) eR.length : Nat) : Int) := by omega
            generalize codeE (reqE p eR) eR.length = cd at *
            clear hc
            go_wp2_with fail
            refine HRQ.out.mono ?_
            rintro e wy ⟨rfl, hb⟩
            have HBy := hid (HBz.out.trans (hb.mono HBz.out.size))
            clear hb
            go_wp2_with fail
            go_ret
            exact ⟨by rw [HX.out]; rfl, HBy.out⟩
  · have HX := hid (entW_bad (o := some (pp, pq)) (e := ((p, q), eR, eP, bk)) h)
    have hpos : (0 : Int) < ((mErr (p, q) : Nat) : Int) := by omega
    generalize mErr (p, q) = z at *
    clear h hme
    go_enter Tryz.func60, Tryz.ntmps60
    go_wp2_with fail
    refine HM.out.mono ?_
    rintro e wz ⟨rfl, hb⟩
    have HBz := hid (HB0.out.trans (hb.mono HB0.out.size))
    clear hb HM
    go_wp2_with fail
    go_ret
    exact ⟨by rw [HX.out]; rfl, HBz.out⟩
theorem entE_any (Q : List Raw) (L : List Ent) (v : Value) (i : Nat) (w : World) (hn : L.length ≤ 1000) (sh : ∀ e, e ∈ L → ShE e) (I : Ixs w v Q L) (h0 : i < L.length) :
    Calls Tryz.prog 60 #[v, .int .i64 (i : Int)] w fun e w' => e = .returned (.int .i64 (entE L i : Nat)) ∧ Below w.heap.size w w' := by
  obtain ⟨a, c, rfl, _, _, h⟩ := id I.es
  obtain ⟨b, o, rfl, _⟩ := h (by intro e; have := I.ln; rw [e] at this; simp at this; omega)
  cases i with
  | zero => exact entE0_any Q L b o c w sh I h0
  | succ k => exact entE1_any Q L b o c w sh I k h0 hn
end Ve
end Go.Proofs.YtffjaliegglddaaGreatDoor
