/-
  ShelfV GrA LawM GrB GrG FoA GwA GrH
-/
import Derived.Shelf.SlicesQ.Reverse
import Derived.Shelf.SlGeneric
import Derived.Test.YtnkgjddkdikikaaGreatDoorProg
import Derived.Test.YtnkgjddkdikikaaGreatDoorPq2
import Derived.Test.YtnkgjddkdikikaaGreatDoorPq26
import Derived.Test.YtnkgjddkdikikaaGreatDoorPq3
import Derived.Test.YtnkgjddkdikikaaGreatDoorPq4
import Derived.Test.YtnkgjddkdikikaaGreatDoorPq13
import Derived.Test.YtnkgjddkdikikaaGreatDoorPq10
import Derived.Test.YtnkgjddkdikikaaGreatDoorPq23
import Derived.Maps.OwnSet
import Derived.DeepKeys4
import Derived.MapViews
import Derived.Test.YtnkgjddkdikikaaGreatDoorPq29
import Derived.Test.YtnkgjddkdikikaaGreatDoorPq27
import Derived.Test.YtnkgjddkdikikaaGreatDoorPq31
import Derived.Test.YtnkgjddkdikikaaGreatDoorPq49
import Derived.Test.YtnkgjddkdikikaaGreatDoorPq46
import Derived.Test.YtnkgjddkdikikaaGreatDoorPq7
import Derived.Test.YtnkgjddkdikikaaGreatDoorPq50
namespace Go.Proofs
open Go.Shelf
def Tryz.revMods_ren : Go.Shelf.Ren := ⟨fun | 35 => 75 | n => n, fun | 22 => 40 | 23 => 35 | 3 => 3 | 4 => 4 | 0 => 0 | n => n, fun | n => n⟩
theorem Tryz.revMods : Go.Proofs.SlLaysE0.n35 Tryz.prog Tryz.revMods_ren := {
  mixed := by kernel_rfl
  f35 := ⟨Tryz.f75.name, by decide, Tryz.func75.trans (congrArg some (by kernel_rfl))⟩
  t0 := Tryz.underlying0
  a0 := Tryz.isAgg0
  z0 := Tryz.sizeOf0
  v0 := Tryz.zeroValue0
  t3 := Tryz.underlying3
  a3 := Tryz.isAgg3
  z3 := Tryz.sizeOf3
  v3 := Tryz.zeroValue3
  t4 := Tryz.underlying4
  a4 := Tryz.isAgg4
  z4 := Tryz.sizeOf4
  v4 := Tryz.zeroValue4
  t22 := Tryz.underlying40
  a22 := Tryz.isAgg40
  z22 := Tryz.sizeOf40
  v22 := Tryz.zeroValue40 }
end Go.Proofs
namespace Go.Proofs.YtnkgjddkdikikaaGreatDoor
namespace Ve
theorem Rch.again {req : Bm → List Bm} {r x : List Bm} (hx : ∀ m, m ∈ x ↔ Rch req r m) {m : Bm} : Rch req x m ↔ Rch req r m := by
  constructor
  · intro h
    induction h with
    | root hr => exact (hx _).1 hr
    | step _ hr ih => exact .step ih hr
  · intro h
    exact .root ((hx m).2 h)
theorem Wy.at_ {req : Bm → List Bm} {T : By} {m : Bm} {k : Nat} {Y : List Bm} (h : Wy req T m k Y) : ∃ Z, Y = (T[k]'h.lt).1 :: Z := by
  cases h with
  | start h => exact ⟨[], rfl⟩
  | next h hk hj _ _ => exact ⟨_, rfl⟩
end Ve
end Go.Proofs.YtnkgjddkdikikaaGreatDoor
namespace Go.Proofs.YtnkgjddkdikikaaGreatDoor
open Go.RowKit
namespace Ve
set_option maxHeartbeats 1000000 in
theorem sameM_some (L : List Bm) (b o c b' o' c' : Nat) (w : World) (hn : L.length ≤ 1000000)
    (hc : ∀ j (h : j < L.length), w.cell? ⟨b, o + j * 2, none⟩ = some (.string L[j].1) ∧ w.cell? ⟨b, o + j * 2 + 1, none⟩ = some (.string L[j].2))
    (hd : ∀ j (h : j < L.length), w.cell? ⟨b', o' + j * 2, none⟩ = some (.string L[j].1) ∧ w.cell? ⟨b', o' + j * 2 + 1, none⟩ = some (.string L[j].2)) :
    Calls Tryz.prog 26 #[.slice (some ⟨b, o, none⟩) L.length c, .slice (some ⟨b', o', none⟩) L.length c'] w fun e w' => e = .returned (.bool true) ∧ Below w.heap.size w w' := by
  have HC := hid hc
  have HD := hid hd
  have hgd := modGuard
  clear hc hd
  go_enter Tryz.func26, Tryz.ntmps26
  go_wp2_with fail
  go_loopw [5] (fun i wr => ∃ k : Nat, k ≤ L.length ∧ i = .int .i64 k ∧ Hid (Below w.heap.size w wr)) (fun i _ => L.length - (intOf i).toNat)
  case atStart => exact ⟨0, Nat.zero_le _, rfl, hid (Below.refl _ _)⟩
  case round =>
    obtain ⟨k, hk, rfl, HB⟩ := hrel
    by_cases hlt : k < L.length
    · have hx := cell_below HB.out (HC.out k hlt).1
      have hy := cell_below HB.out (HC.out k hlt).2
      have hx' := cell_below HB.out (HD.out k hlt).1
      have hy' := cell_below HB.out (HD.out k hlt).2
      have hne := fun W => modNeq L[k].1 L[k].2 L[k].1 L[k].2 W
      rw [decide_eq_true ⟨rfl, rfl⟩, Bool.not_true] at hne
      have hkI : (k : Int) < (L.length : Int) := by omega
      go_wp2_with fail
      go_quiet (fail)
      go_wp2_with fail
      go_roundw
      case rel => exact ⟨k + 1, by omega, by go_num, hid (below_drawn_of HB.out _)⟩
      case measure => simp [intOf]; omega
    · go_wp2_with fail
      go_ret
      exact ⟨rfl, HB.out⟩
theorem sameM_any (L : List Bm) (v u : Value) (w : World) (hn : L.length ≤ 1000000) (hv : MsAt w v L) (hu : MsAt w u L) : Calls Tryz.prog 26 #[v, u] w fun e w' => e = .returned (.bool true) ∧ Below w.heap.size w w' := by
  obtain ⟨a, c, rfl, _, h⟩ := hv
  obtain ⟨a', c', rfl, _, h'⟩ := hu
  cases L with
  | nil => exact sameM_none a a' c c' w
  | cons x r =>
    obtain ⟨b, o, rfl, h2⟩ := h (by simp)
    obtain ⟨b', o', rfl, h3⟩ := h' (by simp)
    exact sameM_some (x :: r) b o c b' o' c' w hn h2 h3
end Ve
end Go.Proofs.YtnkgjddkdikikaaGreatDoor
namespace Go.Proofs.YtnkgjddkdikikaaGreatDoor
open Go.RowKit Go.Maps
namespace Ve
theorem datB_at {T : By} (hT : szT T) (hn : (whoT T).Nodup) {k : Nat} (hk : k < T.length) (z : DataW Bm) : (datB T).atKey (kL T[k].1) z = .held T[k].2 := by
  suffices ∀ (T : By) (D : DataW Bm), IsMap D → szT T → (whoT T).Nodup → ∀ k (hk : k < T.length), (T.foldl (fun D x => D.put (kL x.1) (.held x.2)) D).atKey (kL T[k].1) z = .held T[k].2 from this T _ isMap_empty hT hn k hk
  clear hT hn hk
  intro T
  induction T with
  | nil => intro D _ _ _ k hk; simp at hk
  | cons x r ih =>
    intro D hD hs hn k hk
    have hn2 : (x.1 :: whoT r).Nodup := hn
    obtain ⟨n1, n2⟩ := List.nodup_cons.1 hn2
    rw [List.foldl_cons]
    cases k with
    | succ k =>
      simp only [List.getElem_cons_succ]
      exact ih _ (hD.put _ _) (fun y hy => hs y (List.mem_cons_of_mem _ hy)) n2 k (by simpa using hk)
    | zero =>
      simp only [List.getElem_cons_zero]
      have hx := hs x (by simp)
      have : ∀ (r : By) (D : DataW Bm), szT r → x.1 ∉ whoT r → (r.foldl (fun D x => D.put (kL x.1) (.held x.2)) D).atKey (kL x.1) z = D.atKey (kL x.1) z := by
        intro r
        induction r with
        | nil => intro D _ _; rfl
        | cons y r ih2 =>
          intro D hs2 hn3
          have hy := hs2 y (by simp)
          rw [List.foldl_cons, ih2 _ (fun y hy => hs2 y (List.mem_cons_of_mem _ hy)) (fun h => hn3 (List.mem_cons_of_mem _ h))]
          exact atKey_put_other (fun he => hn3 (by rw [kL_inj hx.1 hx.2 hy.1 hy.2 he]; simp [whoT])) _ _
      rw [this r _ (fun y hy => hs y (List.mem_cons_of_mem _ hy)) n1]
      exact atKey_put_same hD (kL_key _) _ _
end Ve
end Go.Proofs.YtnkgjddkdikikaaGreatDoor
namespace Go.Proofs.YtnkgjddkdikikaaGreatDoor
open Go.RowKit Go.Maps Go.Sort Go.Lib
namespace Ve
def encM (m : Bm) : List Value := [.string m.1, .string m.2]
theorem grownBy_rowK {w : World} {g n : Nat} (d : Array Bm) : w.grownBy (putRowK encM 2 (Sort.ahead w n) g 0 d) (some g) := by
  refine ⟨rfl, rfl, rfl, by simp [putRowK, Sort.putRow, Sort.mapBlock, Sort.ahead], fun k hk hne => ?_⟩
  have : g ≠ k := fun e => hne (by rw [e])
  simp [putRowK, Sort.putRow, Sort.mapBlock, Sort.ahead, Array.getElem?_modify, this]
theorem holds_own {w : World} {B cap g : Nat} {Y : List Bm} (h : w.ownsRow B 35 2 (.slice (some ⟨g, 0, none⟩) Y.length cap) Y.length (flatM Y)) : HoldsK encM 2 w g 0 Y.toArray := by
  obtain ⟨_, ⟨hv, _⟩ | ⟨g', cap', cur, hv, hg, hblk, hcap, hcm, hcs, hct⟩⟩ := h
  · cases hv
  · injection hv with e1 e2 e3
    injection e1 with e1
    injection e1 with e1
    subst e1
    intro j hj
    have hj2 : j < Y.length * 2 := by simpa using hj
    have h1 := flatM_get Y (j / 2) (j % 2) (by omega) (by omega)
    rw [show j / 2 * 2 + j % 2 = j by omega, ← hct, List.getElem?_take, if_pos hj2] at h1
    refine ⟨?_, by simp [World.frozen?, hblk]⟩
    rw [get_flatK encM 2 Y.toArray j (by simpa using hj)]
    have hd : j / 2 < Y.length := by omega
    simp only [World.cell?, hblk, Nat.zero_add]
    have h2 : cur[j]? = cur.toList[j]? := by simp
    rw [h2, h1]
    have e3 : Y.toArray[j / 2]! = Y[j / 2] := by simp [hd]
    rw [e3]
    rcases Nat.mod_two_eq_zero_or_one j with e | e
    · rw [e]; rfl
    · rw [e]; rfl
theorem rev_any (Y : List Bm) (g cap B : Nat) (w : World) (hn : Y.length ≤ 1000000) (h : w.ownsRow B 35 2 (.slice (some ⟨g, 0, none⟩) Y.length cap) Y.length (flatM Y)) :
    Calls Tryz.prog 75 #[.slice (some ⟨g, 0, none⟩) Y.length cap] w fun e w' => e = .returned (.tuple #[]) ∧ MsAt w' (.slice (some ⟨g, 0, none⟩) Y.length cap) Y.reverse ∧ w.grownBy w' (some g) := by
  have hH := holds_own h
  have hc : Y.length ≤ cap := by
    obtain ⟨_, ⟨hv, _⟩ | ⟨g', cap', cur, hv, hg, hblk, hcap, hcm, hcs, hct⟩⟩ := h
    · cases hv
    · injection hv with e1 e2 e3
      omega
  have hR := AnyQ.slices_Reverse Tryz.revMods 2 Tryz.isAgg35 Tryz.sizeOf35 encM (fun _ => rfl) (fun x v hv => by simp [encM] at hv; rcases hv with rfl | rfl <;> rfl) g 0 cap Y.toArray w hH (by simp; omega)
  have hsz : Y.toArray.size = Y.length := by simp
  rw [hsz] at hR
  refine hR.mono ?_
  rintro e w' ⟨h1, n, rfl⟩
  refine ⟨h1, ⟨some ⟨g, 0, none⟩, cap, by rw [List.length_reverse], by rw [List.length_reverse]; exact hc, fun _ => ⟨g, 0, rfl, fun j hj => ?_⟩⟩, grownBy_rowK _⟩
  have hK := holdsK_putRowK encM 2 (Sort.ahead w n) g 0 Y.toArray Y.toArray.reverse (holdsK_ahead encM 2 w n g 0 Y.toArray hH) (by simp)
  have hj2 : j < Y.toArray.reverse.size := by simpa using hj
  have e1 : Y.toArray.reverse[j]! = Y.reverse[j] := by
    have : Y.toArray.reverse = Y.reverse.toArray := by simp
    rw [this, getElem!_pos Y.reverse.toArray j (by simpa using hj)]
    rfl
  have c0 := (hK.cell (i := j) (c := 0) hj2 (by omega)).1
  have c1 := (hK.cell (i := j) (c := 1) hj2 (by omega)).1
  rw [e1] at c0 c1
  exact ⟨by simpa [encM] using c0, by simpa [encM] using c1⟩
theorem look_at {w : World} {b : Nat} {T : By} (h : ByAt w b T) (hT : szT T) (hn : (whoT T).Nodup) {k : Nat} (hk : k < T.length) :
    (Instr.lookup 109 (.map (some b)) (.agg #[.string T[k].1.1, .string T[k].1.2]) false).run Tryz.prog w = .ok (.agg #[.string T[k].2.1, .string T[k].2.2]) w := by
  have hs := hT T[k] (List.getElem_mem hk)
  obtain ⟨v, ps, hrun, hv⟩ := World.ownsMap.lookup h modKey Tryz.underlying109 (zeroMod w) (rB_mod _) (keyOf_mod T[k].1 hs.1 hs.2)
  rw [datB_at hT hn hk] at hv
  obtain rfl := rB_inv hv
  exact hrun
end Ve
end Go.Proofs.YtnkgjddkdikikaaGreatDoor
namespace Go.Proofs.YtnkgjddkdikikaaGreatDoor
open Go.RowKit Go.Maps
namespace Ve
theorem eqM_ne {x m : Bm} (h : x ≠ m) : eqM x m = false := by
  cases e : eqM x m with
  | false => rfl
  | true => exact absurd (eqM_iff.1 e) h
theorem neM_run (x m : Bm) (W : World) : (binOp .neq 35 (.agg #[.string x.1, .string x.2]) (.agg #[.string m.1, .string m.2])).run Tryz.prog W = .ok (.bool (!eqM x m)) W := modNeq x.1 x.2 m.1 m.2 W
theorem idx_same {Q Q' : List Raw} (hl : Q.length = Q'.length) (h : ∀ j (h : j < Q.length) (h' : j < Q'.length), Q[j].1 = Q'[j].1) (m : Bm) : idxOf (isM m) Q = idxOf (isM m) Q' := by
  have e : ∀ j, idxE (isM m) Q j = idxE (isM m) Q' j := fun j => by
    unfold idxE
    by_cases hj : j < Q.length
    · have hj' : j < Q'.length := by omega
      rw [List.getElem?_eq_getElem hj, List.getElem?_eq_getElem hj']
      have : isM m Q[j] = isM m Q'[j] := by
        have := h j hj hj'
        unfold isM
        rw [this]
      simp only [this]
    · rw [List.getElem?_eq_none (by omega), List.getElem?_eq_none (by omega)]
  unfold idxOf
  rw [show idxE (isM m) Q = idxE (isM m) Q' from funext e, hl]
theorem ixs_same {w w' : World} {v v' : Value} {Q Q' : List Raw} {L : List Ent} (I : Ixs w v Q L) (I' : Ixs w' v' Q' L) (m : Bm) : idxOf (isM m) Q = idxOf (isM m) Q' :=
  idx_same (by rw [I.ln, I'.ln]) (fun j h h' => by
    have hj : j < L.length := by rw [← I.ln]; exact h
    rw [(I.ok j h hj).m, (I'.ok j h' hj).m]) m
end Ve
end Go.Proofs.YtnkgjddkdikikaaGreatDoor
namespace Go.Proofs.YtnkgjddkdikikaaGreatDoor
open Go.RowKit Go.Maps
namespace Ve
theorem goM_mem {w : World} {v : Value} {Q : List Raw} {L : List Ent} {roots : List Bm} {T : By} (I : Ixs w v Q L) (h : Came (reqQ Q L) (univ L) roots T) {m : Bm} : m ∈ goM T Q ↔ Rch (reqQ Q L) roots m := by
  constructor
  · intro hm
    obtain ⟨r, hr, rfl⟩ := List.mem_map.1 hm
    exact (h.cameB _).1 (List.mem_filter.1 hr).2
  · intro hm
    have hc := (h.cameB m).2 hm
    have hu := h.b.un m (cameB_iff.1 hc)
    obtain ⟨e, he, rfl⟩ := List.mem_map.1 hu
    obtain ⟨j, hj, rfl⟩ := List.getElem_of_mem he
    have hjq : j < Q.length := by rw [I.ln]; exact hj
    have hm1 := (I.ok j hjq hj).m
    refine List.mem_map.2 ⟨Q[j], List.mem_filter.2 ⟨List.getElem_mem hjq, ?_⟩, hm1⟩
    show cameB T Q[j].1 = true
    rw [hm1]
    exact hc
theorem goM_same {Q : List Raw} {T T' : By} (h : ∀ m, cameB T m = cameB T' m) : goM T Q = goM T' Q := by
  unfold goM goQ
  rw [show (fun r : Raw => cameB T r.1) = fun r => cameB T' r.1 from funext fun r => h r.1]
theorem goM_again {w : World} {v : Value} {Q : List Raw} {L : List Ent} {roots : List Bm} {T T' : By} (I : Ixs w v Q L) (h : Came (reqQ Q L) (univ L) roots T) (h' : Came (reqQ Q L) (univ L) (goM T Q) T') : goM T' Q = goM T Q :=
  goM_same fun m => by
    have e : cameB T' m = true ↔ cameB T m = true := by
      rw [h'.cameB, h.cameB]
      exact Rch.again (fun m => goM_mem I h)
    cases h1 : cameB T' m with
    | true => exact (e.1 h1).symm
    | false =>
      cases h2 : cameB T m with
      | true => rw [e.2 h2] at h1; cases h1
      | false => rfl
end Ve
end Go.Proofs.YtnkgjddkdikikaaGreatDoor
namespace Go.Proofs.YtnkgjddkdikikaaGreatDoor
open Go.RowKit Go.Maps
namespace Ve
theorem univ_sz {L : List Ent} (sh : ∀ e, e ∈ L → ShE e) : ∀ m, m ∈ univ L → m.1.size ≤ maxLen ∧ m.2.size ≤ maxLen := fun m hm => by
  obtain ⟨e, he, rfl⟩ := List.mem_map.1 hm
  have := sh e he
  exact ⟨by have := this.p; unfold maxLen; omega, by have := this.v; unfold maxLen; omega⟩
set_option maxRecDepth 100000 in
set_option maxHeartbeats 2000000 in
theorem way_none (Q : List Raw) (L : List Ent) (roots : List Bm) (x : Bm) (v rv : Value) (A : Nat → Addr) (m : Int) (w : World) (hn : L.length ≤ 1000) (hrn : roots.length ≤ 1000000) (sh : ∀ e, e ∈ L → ShE e) (S : Te w A m) (I : Ixs w v Q L) (hr : MsAt w rv roots) (h0 : (chkG Q L roots).1 = 0) (hx : x.1.size ≤ maxLen ∧ x.2.size ≤ maxLen) (hno : ¬ Rch (reqQ Q L) roots x) :
    Calls Tryz.prog 27 #[v, rv, .agg #[.string x.1, .string x.2]] w fun e w' => ∃ a, e = .returned (.tuple #[.slice none 0 0, .iface 311 (.pointer (some a))]) ∧ a = A 4 ∧ Below w.heap.size w w' := by
  have rg := rgt_of I h0
  have hBa := (Below.refl w.heap.size w).alloc (Nat.le_refl _) (.cells #[.string x.1, .string x.2] 35)
  have HBa := hid hBa
  have HCK := hid (gcheck_any Q L roots v rv A m _ hn hrn sh (S.below hBa) (I.below hBa) (hr.below hBa))
  have HWK := hid (fun W (h : Below w.heap.size w W) => walk_any Q L roots v rv W hn hrn (I.below h) (hr.below h) (univ_sz sh) (fun e he => (sh e he).rn) rg.r (chk_reqs0 I rg.c))
  have HG4 := hid (fun W (h : Below w.heap.size w W) => (S.below h).sen.g4)
  obtain ⟨a, c, hv, -⟩ := id I.es
  subst hv
  obtain ⟨ra, rc, hrv, -⟩ := id hr
  subst hrv
  have HH0 := hid h0
  have HX := hid hx
  have HNO := hid hno
  clear S I hr sh h0 hx hno rg hBa
  go_enter Tryz.func27, Tryz.ntmps27
  go_wp2_with fail
  refine HCK.out.mono ?_
  rintro e w1 ⟨y, rfl, he, hb⟩
  have HB1 := hid (HBa.out.trans (hb.mono (by simp)))
  have hy : y = .nilIface := by
    rcases he.kind with ⟨_, h⟩ | ⟨h, _⟩
    · exact h
    · exact absurd HH0.out h
  subst hy
  have e0 : w1.heap[w.heap.size]? = some (.cells #[.string x.1, .string x.2] 35 (0, 0)) := by rw [hb.block _ (by simp)]; exact heap_new w _
  have HE0 := hid e0
  clear hb he HCK e0
  go_wp2_with fail
  refine (HWK.out w1 HB1.out).mono ?_
  rintro e w2 ⟨mb, rfl, T, hby, hsz, hcm, hb⟩
  have HB2 := hid (HB1.out.trans (hb.mono HB1.out.size))
  have HCA := hid (came_any mb T x w2 HX.out hsz hby)
  have hcb : cameB T x = false := by
    cases h : cameB T x with
    | false => rfl
    | true => exact absurd ((hcm.cameB x).1 h) HNO.out
  rw [hcb] at HCA
  have e2 : w2.heap[w.heap.size]? = some (.cells #[.string x.1, .string x.2] 35 (0, 0)) := (hb.block _ (lt_of_blk HE0.out)).trans HE0.out
  have x0 : w2.cell? ⟨w.heap.size, 0, none⟩ = some (.string x.1) := by rw [Lib.cell_of_heap e2]; rfl
  have x1 : w2.cell? ⟨w.heap.size, 1, none⟩ = some (.string x.2) := by rw [Lib.cell_of_heap e2]; rfl
  clear hby hsz hcm hb hcb e2 HWK
  go_wp2_with fail
  refine HCA.out.mono ?_
  rintro e w3 ⟨rfl, hb⟩
  have HB3 := hid (HB2.out.trans (hb.mono HB2.out.size))
  have g4 := HG4.out w3 HB3.out
  clear hb
  go_wp2_with fail
  go_quiet (fail)
  go_wp2_with fail
  go_ret2
  exact ⟨_, rfl, rfl, below_drawn_of HB3.out _⟩
theorem modNeq_ne {m f : Bm} (h : m ≠ f) (W : World) : (binOp .neq 35 (.agg #[.string m.1, .string m.2]) (.agg #[.string f.1, .string f.2])).run Tryz.prog W = .ok (.bool true) W := by
  rw [modNeq, decide_eq_false (fun e => h (Prod.ext e.1 e.2))]; rfl
def lenOf : Value → Nat
  | .slice _ n _ => n
  | _ => 0
def putM (W : World) (b : Nat) (m : Bm) : World := (W.setCell ⟨b, 0, none⟩ (.string m.1)).setCell ⟨b, 1, none⟩ (.string m.2)
theorem putM_block {W : World} {b : Nat} {c0 c1 : Value} {t : TypeId} (m : Bm) (h : W.heap[b]? = some (.cells #[c0, c1] t (0, 0))) : (putM W b m).heap[b]? = some (.cells #[.string m.1, .string m.2] t (0, 0)) := by
  unfold putM
  have h1 := set_block (o := 0) (x := .string m.1) h
  have h2 := set_block (o := 1) (x := .string m.2) h1
  simpa using h2
theorem putM_other {W : World} {b g : Nat} (m : Bm) (h : g ≠ b) : (putM W b m).heap[g]? = W.heap[g]? := by
  unfold putM
  rw [Below.heap_setCell _ _ _ _ h, Below.heap_setCell _ _ _ _ h]
theorem putM_size (W : World) (b : Nat) (m : Bm) : (putM W b m).heap.size = W.heap.size := by simp [putM, World.setCell]
theorem putM_owns {W : World} {b n : Nat} {e : TypeId} {v : Value} {xs : List Value} (m : Bm) (h : W.ownsRow (b + 1) e 2 v n xs) : (putM W b m).ownsRow (b + 1) e 2 v n xs := by
  have hne : v.ownBlock ≠ some b := fun hh => by have := (h.lt b hh).1; omega
  exact owns_set (owns_set h hne) hne
theorem Wst.more {w0 W w6 : World} {req : Bm → List Bm} {T : By} {x : Bm} {mb : Nat} {yv yv' : Value} {k : Nat} {V : List Bm} {o : Obj} (h : Wst w0 W req T x mb yv k V) (hk : k < T.length) {j : Nat} (hj : j < k) (e1 : (T[j]'(Nat.lt_trans hj hk)).1 = T[k].2) (e2 : T[k].1 ∈ req T[k].2)
    (hown : w6.ownsRow (w0.heap.size + 1) 35 2 yv' (V.length + 1) (flatM V ++ [.string T[k].2.1, .string T[k].2.2])) (hg : ((putM W w0.heap.size T[k].2).alloc o).grownBy w6 yv.ownBlock) :
    Wst w0 w6 req T x mb yv' j (V ++ [T[k].2]) := by
  obtain ⟨hk', hc⟩ := h.xc
  have hs := h.bl.size
  have l1 := lt_of_blk hc
  obtain ⟨es, clock, hm1⟩ := h.mp.block
  have l2 := lt_of_blk hm1
  have n1 : w0.heap.size ≠ mb := h.mp.ne hc
  have r1 : yv.ownBlock ≠ some w0.heap.size := fun hh => by have := (h.row.lt _ hh).1; omega
  have r2 : yv.ownBlock ≠ some mb := fun hh => by
    obtain ⟨hl, ⟨h1, _⟩ | ⟨g', cap, cur, q1, q2, q3, _⟩⟩ := h.row
    · rw [h1] at hh; cases hh
    · rw [q1] at hh
      have : g' = mb := by simpa [Value.ownBlock] using hh
      exact h.mp.ne q3 this
  have al := (Below.refl (putM W w0.heap.size T[k].2).heap.size (putM W w0.heap.size T[k].2)).alloc (Nat.le_refl _) o
  have keep : ∀ b, b < W.heap.size → yv.ownBlock ≠ some b → w6.heap[b]? = (putM W w0.heap.size T[k].2).heap[b]? := fun b hb hr => by
    rw [hg.block b (by simp [putM_size]; omega) (fun e => hr e.symm), al.block b (by rw [putM_size]; exact hb)]
  have b1 : Below w0.heap.size w0 (putM W w0.heap.size T[k].2) := (h.bl.setCell (p := ⟨w0.heap.size, 0, none⟩) (Nat.le_refl _) _).setCell (p := ⟨w0.heap.size, 1, none⟩) (Nat.le_refl _) _
  have b2 : Below w0.heap.size w0 w6 := (b1.alloc b1.size o).grown hg (by simp [putM_size]; omega) (fun q hq => by have := (h.row.lt q hq).1; omega)
  refine ⟨b2, ?_, ?_, ⟨Nat.lt_trans hj hk, ?_⟩, ?_, ?_⟩
  · rw [List.reverse_append, List.reverse_singleton, ← e1]
    exact Wy.next h.wy hk hj e1 e2
  · have := h.ln; simp; omega
  · rw [keep _ l1 r1, e1]; exact putM_block _ hc
  · exact (h.mp.heap (putM_other _ (Ne.symm n1))).heap (keep mb l2 r2)
  · rw [List.length_append, flatM_app]
    exact hown
set_option maxRecDepth 100000 in
set_option maxHeartbeats 2000000 in
theorem way_some (Q : List Raw) (L : List Ent) (roots : List Bm) (x : Bm) (v rv : Value) (A : Nat → Addr) (m : Int) (w : World) (hn : L.length ≤ 1000) (hrn : roots.length ≤ 1000000) (sh : ∀ e, e ∈ L → ShE e) (S : Te w A m) (I : Ixs w v Q L) (hr : MsAt w rv roots) (h0 : (chkG Q L roots).1 = 0) (hx : x.1.size ≤ maxLen ∧ x.2.size ≤ maxLen) (hrc : Rch (reqQ Q L) roots x) :
    Calls Tryz.prog 27 #[v, rv, .agg #[.string x.1, .string x.2]] w fun e w' => ∃ u, e = .returned (.tuple #[u, .nilIface]) ∧ ∃ Y, MsAt w' u Y ∧ WayOk (reqQ Q L) (univ L) roots x Y ∧ Y.length ≤ 1000 ∧ Below w.heap.size w w' := by
  obtain ⟨i0, hi0, hz0, hz1, hz2⟩ := info_parts infoMod
  have rg := rgt_of I h0
  have hBa := (Below.refl w.heap.size w).alloc (Nat.le_refl _) (.cells #[.string x.1, .string x.2] 35)
  have HBa := hid hBa
  have HCK := hid (gcheck_any Q L roots v rv A m _ hn hrn sh (S.below hBa) (I.below hBa) (hr.below hBa))
  have HWK := hid (fun W (h : Below w.heap.size w W) => walk_any Q L roots v rv W hn hrn (I.below h) (hr.below h) (univ_sz sh) (fun e he => (sh e he).rn) rg.r (chk_reqs0 I rg.c))
  obtain ⟨a, c, hv, -⟩ := id I.es
  subst hv
  obtain ⟨ra, rc, hrv, -⟩ := id hr
  subst hrv
  have HH0 := hid h0
  have HX := hid hx
  have HRC := hid hrc
  have hgd := modGuard
  clear S I hr sh h0 hx hrc rg hBa
  go_enter Tryz.func27, Tryz.ntmps27
  go_wp2_with fail
  refine HCK.out.mono ?_
  rintro e w1 ⟨y, rfl, he, hb⟩
  have HB1 := hid (HBa.out.trans (hb.mono (by simp)))
  have hy : y = .nilIface := by
    rcases he.kind with ⟨_, h⟩ | ⟨h, _⟩
    · exact h
    · exact absurd HH0.out h
  subst hy
  have e0 : w1.heap[w.heap.size]? = some (.cells #[.string x.1, .string x.2] 35 (0, 0)) := by rw [hb.block _ (by simp)]; exact heap_new w _
  have HE0 := hid e0
  clear hb he HCK e0
  go_wp2_with fail
  refine (HWK.out w1 HB1.out).mono ?_
  rintro e w2 ⟨mb, rfl, T, hby, hsz, hcm, hb⟩
  have HB2 := hid (HB1.out.trans (hb.mono HB1.out.size))
  have HCA := hid (came_any mb T x w2 HX.out hsz hby)
  rw [(hcm.cameB x).2 HRC.out] at HCA
  have HBY := hid hby
  have HSZ := hid hsz
  have HCM := hid hcm
  have e2 : w2.heap[w.heap.size]? = some (.cells #[.string x.1, .string x.2] 35 (0, 0)) := (hb.block _ (lt_of_blk HE0.out)).trans HE0.out
  have HE2 := hid e2
  have x0 : w2.cell? ⟨w.heap.size, 0, none⟩ = some (.string x.1) := by rw [Lib.cell_of_heap e2]; rfl
  have x1 : w2.cell? ⟨w.heap.size, 1, none⟩ = some (.string x.2) := by rw [Lib.cell_of_heap e2]; rfl
  clear hby hsz hcm hb e2 HWK
  go_wp2_with fail
  refine HCA.out.mono ?_
  rintro e w3 ⟨rfl, hb⟩
  have HB3 := hid (HB2.out.trans (hb.mono HB2.out.size))
  have HBY3 := hid (HBY.out.below hb)
  have e3 : w3.heap[w.heap.size]? = some (.cells #[.string x.1, .string x.2] 35 (0, 0)) := (hb.block _ (lt_of_blk HE2.out)).trans HE2.out
  have HE3 := hid e3
  have y0 : w3.cell? ⟨w.heap.size, 0, none⟩ = some (.string x.1) := by rw [Lib.cell_of_heap e3]; rfl
  have y1 : w3.cell? ⟨w.heap.size, 1, none⟩ = some (.string x.2) := by rw [Lib.cell_of_heap e3]; rfl
  clear hb e3 x0 x1 HCA
  go_wp2_with fail
  have HST := hid (show ∃ V k, V.length = 1 ∧ Wst w (w3.alloc (.cells #[.string x.1, .string x.2] 35)) (reqQ Q L) T x mb (.slice (some ⟨w3.heap.size, 0, none⟩) 1 1) k V from by
    obtain ⟨k, hk, ek⟩ := whoT_mem.1 (cameB_iff.1 ((HCM.out.cameB x).2 HRC.out))
    have hBb := (Below.refl w3.heap.size w3).alloc (Nat.le_refl _) (.cells #[.string x.1, .string x.2] 35)
    refine ⟨[x], k, rfl, HB3.out.trans (hBb.mono HB3.out.size), ?_, by simp; omega, ⟨hk, ?_⟩, HBY3.out.below hBb, ?_⟩
    · rw [List.reverse_singleton, ← ek]; exact Wy.start hk
    · rw [ek]; exact (hBb.block _ (lt_of_blk HE3.out)).trans HE3.out
    · exact ⟨rfl, Or.inr ⟨w3.heap.size, 1, #[.string x.1, .string x.2], rfl, lt_of_blk HE3.out, heap_new w3 _, Nat.le_refl _, by unfold maxLen; omega, rfl, rfl⟩⟩)
  generalize w3.alloc (.cells #[.string x.1, .string x.2] 35) = w4 at *
  generalize (some ⟨w3.heap.size, 0, none⟩ : Option Addr) = sa0 at *
  have HTL := hid (show T.length ≤ 1000 by have := HCM.out.b.len; rw [univ_len] at this; omega)
  clear y0 y1
  go_loopw [10] (fun yv wr => ∃ (sa : Option Addr) (n sc : Nat), yv = .slice sa n sc ∧ Hid (∃ V k, V.length = n ∧ Wst w wr (reqQ Q L) T x mb (.slice sa n sc) k V)) (fun yv _ => T.length + 1 - lenOf yv)
  case atStart => exact ⟨sa0, 1, 1, rfl, HST⟩
  case round =>
    obtain ⟨sa, n, sc, rfl, HS⟩ := hrel
    obtain ⟨V, k, hVn, hst⟩ := HS.out
    have HVN := hid hVn
    have HW := hid hst
    obtain ⟨hk, hxc⟩ := hst.xc
    have xx0 : wr.cell? ⟨w.heap.size, 0, none⟩ = some (.string T[k].1.1) := by rw [Lib.cell_of_heap hxc]; rfl
    have xx1 : wr.cell? ⟨w.heap.size, 1, none⟩ = some (.string T[k].1.2) := by rw [Lib.cell_of_heap hxc]; rfl
    have hlk0 : ∀ q, (Instr.lookup 109 (.map (some mb)) (.agg #[.string T[k].1.1, .string T[k].1.2]) false).run Tryz.prog (wr.drewN q) = .ok (.agg #[.string T[k].2.1, .string T[k].2.2]) (wr.drewN q) := fun q => look_at (hst.mp.below (below_drawn _ q)) HSZ.out HCM.out.b.nd hk
    have hne0 := fun W => modNeq T[k].1.1 T[k].1.2 T[k].2.1 T[k].2.2 W
    have HXC := hid hxc
    have HBY := hid (HCM.out.b.by_ k hk)
    have HOK := hid (fun e => hst.ok HCM.out hk e)
    have HMO := hid (fun (W w6 : World) (yv' : Value) (o : Obj) (h : Wst w W (reqQ Q L) T x mb (.slice sa n sc) k V) j hj e1 e2 hown hg => Wst.more (w6 := w6) (yv' := yv') (o := o) h hk (j := j) hj e1 e2 hown hg)
    have HKL := hid hk
    by_cases hsame : T[k].1 = T[k].2
    · have HOK2 := hid (HOK.out hsame)
      rw [decide_eq_true ⟨congrArg Prod.fst hsame, congrArg Prod.snd hsame⟩] at hne0
      simp only [Bool.not_true] at hne0
      have hV0 : 0 < n := by have := HOK2.out.pos; rw [List.length_reverse, HVN.out] at this; exact this
      have HR0 := hid hst.row
      clear hsame hst hxc hVn HMO HBY HOK HXC
      obtain ⟨p1, p2, f1, f2, x0, x1, hlk, hne⟩ : ∃ p1 p2 f1 f2, wr.cell? ⟨w.heap.size, 0, none⟩ = some (.string p1) ∧ wr.cell? ⟨w.heap.size, 1, none⟩ = some (.string p2) ∧ (∀ q, (Instr.lookup 109 (.map (some mb)) (.agg #[.string p1, .string p2]) false).run Tryz.prog (wr.drewN q) = .ok (.agg #[.string f1, .string f2]) (wr.drewN q)) ∧ ∀ W, (binOp .neq 35 (.agg #[.string p1, .string p2]) (.agg #[.string f1, .string f2])).run Tryz.prog W = .ok (.bool false) W := ⟨_, _, _, _, xx0, xx1, hlk0, hne0⟩
      clear xx0 xx1 hlk0 hne0
      go_wp2_with fail
      go_quiet (fail)
      have HW5 := hid (HW.out.below (below_drawn _ nq))
      generalize wr.drewN nq = w5 at *
      obtain ⟨g, cap, hg⟩ : ∃ g cap, (Value.slice sa n sc) = .slice (some ⟨g, 0, none⟩) n cap := by
        obtain ⟨_, ⟨h1, h2⟩ | ⟨g, cap, cur, q1, _⟩⟩ := HR0.out
        · rw [HVN.out] at h2; omega
        · rw [HVN.out] at q1; exact ⟨g, cap, q1⟩
      injection hg with hg1 _ hg3
      subst hg1
      subst hg3
      have HRV := hid (rev_any V g sc (w.heap.size + 1) w5 (by have := HVN.out; have := HW.out.ln; have := HTL.out; omega) (by rw [HVN.out]; have := HW5.out.row; rw [HVN.out] at this; exact this))
      rw [HVN.out] at HRV
      go_wp2_with fail
      refine HRV.out.mono ?_
      rintro e w6 ⟨rfl, hms, hgr⟩
      have HMS := hid hms
      have HB6 := hid (show Below w.heap.size w w6 from HW5.out.bl.grown hgr HW5.out.bl.size (fun q hq => by cases hq; have := (HW5.out.row.lt g rfl).1; omega))
      have HYL := hid (show V.reverse.length ≤ 1000 by rw [List.length_reverse]; have := HW.out.ln; have := HTL.out; omega)
      clear hms hgr
      go_wp2_with fail
      go_ret2
      exact ⟨_, rfl, V.reverse, HMS.out, HOK2.out, HYL.out, HB6.out⟩
    · have hne1 := fun W => modNeq_ne hsame W
      obtain ⟨j, hj, e1, e2⟩ : ∃ j, ∃ hj : j < k, (T[j]'(Nat.lt_trans hj hk)).1 = T[k].2 ∧ T[k].1 ∈ reqQ Q L T[k].2 := by
        rcases HBY.out with h | h
        · exact absurd h.1 hsame
        · exact h
      have HMO2 := hid (fun (W w6 : World) (yv' : Value) (o : Obj) (h : Wst w W (reqQ Q L) T x mb (.slice sa n sc) k V) hown hg => HMO.out W w6 yv' o h j hj e1 e2 hown hg)
      clear hst hVn HMO HBY HOK e1 e2
      have HRB := hid (fun W (h : Wst w W (reqQ Q L) T x mb (.slice sa n sc) k V) => h.xc)
      obtain ⟨f, p1, p2, x0, x1, hlk, hne, hmo⟩ : ∃ (f : Bm) (p1 p2 : ByteArray), wr.cell? ⟨w.heap.size, 0, none⟩ = some (.string p1) ∧ wr.cell? ⟨w.heap.size, 1, none⟩ = some (.string p2) ∧ (∀ q, (Instr.lookup 109 (.map (some mb)) (.agg #[.string p1, .string p2]) false).run Tryz.prog (wr.drewN q) = .ok (.agg #[.string f.1, .string f.2]) (wr.drewN q)) ∧ (∀ W, (binOp .neq 35 (.agg #[.string p1, .string p2]) (.agg #[.string f.1, .string f.2])).run Tryz.prog W = .ok (.bool true) W) ∧
        (∀ (W w6 : World) (yv' : Value) (o : Obj), Wst w W (reqQ Q L) T x mb (.slice sa n sc) k V → w6.ownsRow (w.heap.size + 1) 35 2 yv' (V.length + 1) (flatM V ++ [.string f.1, .string f.2]) → ((putM W w.heap.size f).alloc o).grownBy w6 (Value.slice sa n sc).ownBlock → Wst w w6 (reqQ Q L) T x mb yv' j (V ++ [f])) := ⟨T[k].2, _, _, xx0, xx1, hlk0, hne1, HMO2.out⟩
      clear xx0 xx1 hlk0 hne0 hne1
      have HMOR := hid hmo
      clear hmo HMO2
      have HEX := hid (show ∃ c0 c1, wr.heap[w.heap.size]? = some (.cells #[c0, c1] 35 (0, 0)) from ⟨_, _, HXC.out⟩)
      clear hxc HXC hsame hk
      go_wp2_with fail
      go_quiet (fail)
      have HW5 := hid (HW.out.below (below_drawn _ nq))
      have HEX5 := hid (show ∃ c0 c1, (wr.drewN nq).heap[w.heap.size]? = some (.cells #[c0, c1] 35 (0, 0)) from HEX.out)
      have u0 : (wr.drewN nq).cell? ⟨w.heap.size, 0, none⟩ = some (.string p1) := x0
      have u1 : (wr.drewN nq).cell? ⟨w.heap.size, 1, none⟩ = some (.string p2) := x1
      have ulk := hlk nq
      generalize wr.drewN nq = w5 at *
      clear x0 x1 hlk hne
      have uf : ∀ o, w5.frozen? ⟨w.heap.size, o, none⟩ = false := fun o => by
        obtain ⟨c0, c1, h⟩ := HEX5.out
        simp [World.frozen?, h]
      have HOV := hid (putM_owns f HW5.out.row)
      have hsz : w.heap.size ≤ w5.heap.size := HW5.out.bl.size
      rw [HVN.out] at HOV
      have HPM := hid (show putM w5 w.heap.size f = (w5.setCell ⟨w.heap.size, 0, none⟩ (.string f.1)).setCell ⟨w.heap.size, 1, none⟩ (.string f.2) from rfl)
      rw [HPM.out] at HOV
      have hn1000 : n ≤ 1000 := by have := HVN.out; have := HW.out.ln; have := HTL.out; omega
      have hlt1 : w.heap.size + 1 ≤ w5.heap.size := by
        obtain ⟨c0, c1, h⟩ := HEX5.out
        exact lt_of_blk h
      go_wp2_with (at_builtin; refine wpList_append_own _ rfl _ _ 40 rfl (w.heap.size + 1) 35 i0 _ 2 32 Tryz.underlying40 hi0 hz0 hz1 hz2 rfl (by decide) _ _ _ rfl (HOV.out.alloc _) ⟨w5.heap.size, 0, none⟩ 1 1 [.string f.1, .string f.2] rfl rfl ?c1 ?c2 ?c3 ?c4 ?c5 ?_)
      case c1 =>
        have h2 := heap_alloc_new ((w5.setCell ⟨w.heap.size, 0, none⟩ (.string f.1)).setCell ⟨w.heap.size, 1, none⟩ (.string f.2)) (.cells #[.string f.1, .string f.2] 35)
        rw [show ((w5.setCell ⟨w.heap.size, 0, none⟩ (.string f.1)).setCell ⟨w.heap.size, 1, none⟩ (.string f.2)).heap.size = w5.heap.size by simp [World.setCell]] at h2
        exact World.news_of_block (cs := #[.string f.1, .string f.2]) (t := 35) (fr := (0, 0)) h2
      case c2 =>
        intro u hu
        simp at hu
        rcases hu with rfl | rfl <;> rfl
      case c3 => unfold maxLen; omega
      case c4 => omega
      case c5 => simp [World.setCell]; omega
      intro v' w6 hown hgrow _
      have HNW := hid (show ∃ V k, V.length = n + 1 ∧ Wst w w6 (reqQ Q L) T x mb v' k V from ⟨V ++ [f], j, by simp [HVN.out], HMOR.out w5 w6 v' _ HW5.out (by rw [HVN.out]; exact hown) (by rw [HPM.out]; exact hgrow)⟩)
      obtain ⟨va, vc, hv⟩ := own_slN hown
      subst hv
      have HME := hid (show T.length + 1 - (n + 1) < T.length + 1 - n by have := HVN.out; have := HW.out.ln; omega)
      clear hown hgrow
      go_wp2_with fail
      go_roundw
      case rel => exact ⟨va, n + 1, vc, rfl, HNW⟩
      case measure => exact HME.out
end Ve
end Go.Proofs.YtnkgjddkdikikaaGreatDoor
