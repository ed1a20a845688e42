/-
  MvB GtX MvH PkQ RmA MvC MvG MlP PkR BxP MtP PgP UpP UpB PgF PkH
-/
import Derived.Lib.SliceRun
import Derived.Shelf.SlSortCmp.WholeK
import Derived.Test.YtnkgjddkdikikaaGreatDoorPq2
import Derived.Test.YtnkgjddkdikikaaGreatDoorPq4
import Derived.Test.YtnkgjddkdikikaaGreatDoorPq7
import Derived.Test.YtnkgjddkdikikaaGreatDoorPq10
import Derived.Test.YtnkgjddkdikikaaGreatDoorPq13
import Derived.Test.YtnkgjddkdikikaaGreatDoorPq23
import Derived.Test.YtnkgjddkdikikaaGreatDoorPq27
import Derived.Test.YtnkgjddkdikikaaGreatDoorPq29
import Derived.Test.YtnkgjddkdikikaaGreatDoorPq31
import Derived.Test.YtnkgjddkdikikaaGreatDoorPq5
import Derived.Test.YtnkgjddkdikikaaGreatDoorPq14
import Derived.Test.YtnkgjddkdikikaaGreatDoorPq32
import Derived.Test.YtnkgjddkdikikaaGreatDoorPq26
import Derived.Test.YtnkgjddkdikikaaGreatDoorPq49
import Derived.Test.YtnkgjddkdikikaaGreatDoorPq24
import Derived.Test.YtnkgjddkdikikaaGreatDoorPq25
import Derived.Test.YtnkgjddkdikikaaGreatDoorPq3
import Derived.Test.YtnkgjddkdikikaaGreatDoorPq21
import Derived.Test.YtnkgjddkdikikaaGreatDoorPq12
namespace Go.Proofs.YtnkgjddkdikikaaGreatDoor
open Go.RowKit
namespace Ve
structure Mw (w0 W : World) (g : Nat) (D : List Bm) : Prop where
  bl : Below w0.heap.size w0 W
  lo : w0.heap.size ≤ g
  hi : g < W.heap.size
  fz : ∀ o, W.frozen? ⟨g, o, none⟩ = false
  c0 : ∀ j (h : j < D.length), W.cell? ⟨g, j * 2, none⟩ = some (.string D[j].1)
  c1 : ∀ j (h : j < D.length), W.cell? ⟨g, j * 2 + 1, none⟩ = some (.string D[j].2)
def mcells (m : Bm) : List Value := [.string m.1, .string m.2]
theorem Mw.below {w0 W W' : World} {g : Nat} {D : List Bm} (h : Mw w0 W g D) (hb : Below W.heap.size W W') : Mw w0 W' g D :=
  ⟨h.bl.trans (hb.mono h.bl.size), h.lo, Nat.lt_of_lt_of_le h.hi hb.size, fun o => by rw [hb.frozen h.hi]; exact h.fz o, fun j hj => cell_below hb (h.c0 j hj), fun j hj => cell_below hb (h.c1 j hj)⟩
theorem Mw.at {w0 W : World} {g : Nat} {D : List Bm} (h : Mw w0 W g D) {j : Nat} {r : Bm} (hj : D[j]? = some r) :
    W.cell? ⟨g, j * 2, none⟩ = some (.string r.1) ∧ W.cell? ⟨g, j * 2 + 1, none⟩ = some (.string r.2) := by
  obtain ⟨hl, rfl⟩ := List.getElem?_eq_some_iff.1 hj
  exact ⟨h.c0 j hl, h.c1 j hl⟩
theorem Mw.cell {w0 W : World} {g : Nat} {D : List Bm} (h : Mw w0 W g D) (j : Nat) (hj : j < D.length) (c : Nat) (hc : c < 2) : W.cell? ⟨g, j * 2 + c, none⟩ = (mcells D[j])[c]? := by
  match c, hc with
  | 0, _ => exact h.c0 j hj
  | 1, _ => exact h.c1 j hj
theorem Mw.of_cells {w0 W : World} {g : Nat} {D : List Bm} (h1 : Below w0.heap.size w0 W) (h2 : w0.heap.size ≤ g) (h3 : g < W.heap.size) (h4 : ∀ o, W.frozen? ⟨g, o, none⟩ = false)
    (h : ∀ j (hj : j < D.length) c (_ : c < 2), W.cell? ⟨g, j * 2 + c, none⟩ = (mcells D[j])[c]?) : Mw w0 W g D :=
  ⟨h1, h2, h3, h4, fun j hj => h j hj 0 (by omega), fun j hj => h j hj 1 (by omega)⟩
theorem Mw.ms {w0 W : World} {g : Nat} {D : List Bm} (h : Mw w0 W g D) {cap : Nat} (hc : D.length ≤ cap) : MsAt W (.slice (some ⟨g, 0, none⟩) D.length cap) D :=
  ⟨_, cap, rfl, hc, fun _ => ⟨g, 0, rfl, fun j hj => ⟨by rw [Nat.zero_add]; exact h.c0 j hj, by rw [Nat.zero_add]; exact h.c1 j hj⟩⟩⟩
theorem own_mw {w0 W : World} {v : Value} {L : List Bm} (h : W.ownsRow w0.heap.size 35 2 v L.length (flatM L)) (hb : Below w0.heap.size w0 W) (hL : L ≠ []) : ∃ g cap, v = .slice (some ⟨g, 0, none⟩) L.length cap ∧ L.length ≤ cap ∧ cap ≤ maxLen ∧ Mw w0 W g L := by
  obtain ⟨_, ⟨_, hn0⟩ | ⟨g, cap, cur, hv, hg, hblk, hcap, hcm, hcs, hct⟩⟩ := h
  · exact absurd (List.length_eq_zero_iff.1 hn0) hL
  · refine ⟨g, cap, hv, hcap, hcm, Mw.of_cells hb hg (lt_of_blk hblk) (fun o => by simp [World.frozen?, hblk]) (fun j hj c hc => ?_)⟩
    have h1 := flatM_get L j c hj hc
    rw [← hct, List.getElem?_take, if_pos (by omega)] at h1
    simp only [World.cell?, hblk]
    unfold mcells
    rw [← h1]; simp
def srtM (D : List Bm) : Prop := D.Pairwise nfW
structure CpM (D : List Bm) (m : Nat) (E : List Bm) : Prop where
  ri : rising E
  sub : ∀ e, e ∈ E → e ∈ D.take m
  top : ∀ x, x ∈ D.take m → ∃ e, e ∈ E ∧ e.1 = x.1 ∧ ordV (vb x) (vb e) ≤ 0
  len : E.length ≤ m
theorem mem_take_at {D : List Bm} {m : Nat} {x : Bm} (h : x ∈ D.take m) : ∃ i, ∃ hi : i < D.length, i < m ∧ D[i] = x := by
  obtain ⟨i, hi, e⟩ := List.mem_iff_getElem.1 h
  rw [List.getElem_take] at e
  simp at hi
  exact ⟨i, by omega, by omega, e⟩
theorem take_snocM {D : List Bm} {m : Nat} (hm : m < D.length) {x : Bm} : x ∈ D.take (m + 1) ↔ x ∈ D.take m ∨ x = D[m] := by
  rw [List.take_succ_eq_append_getElem hm, List.mem_append, List.mem_singleton]
theorem CpM.start {D : List Bm} (hD : 0 < D.length) (hr : ∀ r, r ∈ D → Rt r) : CpM D 1 (D.take 1) := by
  match D, hD with
  | r :: R, _ => exact ⟨List.pairwise_singleton _ _, fun t h => h, fun x hx => ⟨x, hx, rfl, by
      have : x = r := by simpa using hx
      subst this
      rw [(ordV_zero (hr x (by simp)).ver (hr x (by simp)).ver).2 rfl]; omega⟩, by simp⟩
theorem CpM.same {D E : List Bm} {m : Nat} (h : CpM D (m + 1) E) (hs : srtM D) (_hr : ∀ r, r ∈ D → Rt r) (hm : m + 1 < D.length) (he : D[m + 1].1 = (D[m]'(by omega)).1) : CpM D (m + 1 + 1) E := by
  have hp := List.pairwise_iff_getElem.1 hs
  refine ⟨h.ri, fun e he => (take_snocM hm).2 (Or.inl (h.sub e he)), fun x hx => ?_, by have := h.len; omega⟩
  rcases (take_snocM hm).1 hx with hx | rfl
  · exact h.top x hx
  · obtain ⟨e, h1, h2, _⟩ := h.top (D[m]'(by omega)) ((take_snocM (by omega)).2 (Or.inr rfl))
    obtain ⟨i, hi, him, rfl⟩ := mem_take_at (h.sub e h1)
    refine ⟨D[i], h1, h2.trans he.symm, ?_⟩
    rcases hp i (m + 1) hi hm him with h3 | ⟨_, h3⟩
    · rw [h2, ← he, lt_irrefl] at h3; cases h3
    · exact h3
end Ve
end Go.Proofs.YtnkgjddkdikikaaGreatDoor
namespace Go.Proofs.YtnkgjddkdikikaaGreatDoor
open Go.RowKit Go.Maps
namespace Ve
open Classical in
noncomputable def rX (Q : List Raw) (L : List Ent) (roots : List Bm) : List Bm := if (chkG Q L roots).1 = 0 then (univ L).filter (fun m => decide (Rch (reqQ Q L) roots m)) else []
end Ve
end Go.Proofs.YtnkgjddkdikikaaGreatDoor
namespace Go.Proofs.YtnkgjddkdikikaaGreatDoor
open Go.RowKit Go.Maps
namespace Ve
theorem goM_lenJ {w : World} {v : Value} {Q : List Raw} {L : List Ent} (I : Ixs w v Q L) (T : By) : (goM T Q).length ≤ L.length := by
  unfold goM goQ
  rw [List.length_map, ← I.ln]
  exact List.length_filter_le _ _
structure Bt (Q : List Raw) (L : List Ent) (roots E : List Bm) : Prop where
  c : ∃ T, Came (reqQ Q L) (univ L) roots T ∧ Jn (goM T Q) E ∧ E.length ≤ (goM T Q).length
end Ve
end Go.Proofs.YtnkgjddkdikikaaGreatDoor
namespace Go.Proofs.YtnkgjddkdikikaaGreatDoor
open Go.RowKit
namespace Ve
def shQ (Q : List Raw) : Prop := ∀ r, r ∈ Q → r.1.1.size ≤ 80 ∧ r.1.2.size ≤ 80
def StayK (T : World → Prop) : Prop := ∀ W W', T W → Below W.heap.size W W' → T W'
def OfC (T : World → Prop) : Prop := ∀ (Q : List Raw) (L : List Ent) (R : List Bm) (p : ByteArray) (v rv : Value) (A : Nat → Addr) (m : Int) (w : World), L.length ≤ 200 → (∀ e, e ∈ L → ShE e) → shQ Q → R.length ≤ 1000 → (hvL Q L R p).length ≤ 19 → p.size ≤ 1000 → Te w A m → T w → Ixs w v Q L → MsAt w rv R →
  Calls Tryz.prog 45 #[v, rv, .string p] w fun e w' => ∃ x, e = .returned (.tuple #[.agg #[.string (ofM Q L R p).1, .string (ofM Q L R p).2], x]) ∧ ErrAt w' A x (ofF Q L R p).1 (ofF Q L R p).2 ∧ Below w.heap.size w w'
def AllC (T : World → Prop) : Prop := ∀ (Q : List Raw) (L : List Ent) (R : List Bm) (v rv : Value) (A : Nat → Addr) (m : Int) (w : World), L.length ≤ 200 → (∀ e, e ∈ L → ShE e) → shQ Q → R.length ≤ 1000 → Te w A m → T w → Ixs w v Q L → MsAt w rv R →
  Calls Tryz.prog 43 #[v, rv] w fun e w' => ∃ u x, e = .returned (.tuple #[u, x]) ∧ TxAt w' u (alX Q L R) ∧ ErrAt w' A x (alF Q L R).1 (alF Q L R).2 ∧ Below w.heap.size w w'
end Ve
end Go.Proofs.YtnkgjddkdikikaaGreatDoor
namespace Go.Proofs.YtnkgjddkdikikaaGreatDoor
open Go.RowKit Go.Maps
namespace Ve
structure Mks (w W : World) (Q : List Raw) (L : List Ent) (roots : List Bm) (O : List Bool) : Prop where
  bl : Below w.heap.size w W
  hp : W.heap[w.heap.size]? = some (.cells (bwc O) 4 (0, 0))
  ok : Mk (reqQ Q L) (univ L) roots O
theorem Mks.below {w W W' : World} {Q : List Raw} {L : List Ent} {roots : List Bm} {O : List Bool} (h : Mks w W Q L roots O) (hb : Below W.heap.size W W') : Mks w W' Q L roots O :=
  ⟨h.bl.trans (hb.mono h.bl.size), (hb.block _ (lt_of_blk h.hp)).trans h.hp, h.ok⟩
theorem idx_univ {w : World} {v : Value} {Q : List Raw} {L : List Ent} (I : Ixs w v Q L) {m : Bm} (hm : m ∈ univ L) : ∃ k, ∃ hk : k < (univ L).length, idxOf (isM m) Q = (k : Int) ∧ (univ L)[k] = m := by
  obtain ⟨k, hk⟩ := (found_iff I m).1 hm
  obtain ⟨h1, h2⟩ := idx_is hk
  have h3 : k < L.length := by rw [← I.ln]; exact h1
  refine ⟨k, by simpa [univ] using h3, hk, ?_⟩
  have := of_decide_eq_true h2
  simp only [univ, List.getElem_map]
  rw [← (I.ok k h1 h3).m]
  exact Prod.ext this.1 this.2
end Ve
end Go.Proofs.YtnkgjddkdikikaaGreatDoor
namespace Go.Proofs.YtnkgjddkdikikaaGreatDoor
open Go.RowKit
namespace Ve
theorem grow_of_be {W w' : World} (h : Below W.heap.size W w') (hd : W.drawn ≤ w'.drawn) : ∃ q os', w' = Go.Sort.grow (W.drewN q) os' := by
  refine ⟨w'.drawn - W.drawn, w'.heap.extract W.heap.size w'.heap.size, ?_⟩
  have hh : w'.heap = W.heap ++ w'.heap.extract W.heap.size w'.heap.size := by
    apply Array.ext_getElem?
    intro i
    by_cases hi : i < W.heap.size
    · rw [Array.getElem?_append_left hi, h.block i hi]
    · rw [Array.getElem?_append_right (by omega), Array.getElem?_extract]
      have hs := h.size
      by_cases h2 : i < w'.heap.size
      · rw [if_pos (by omega)]
        congr 1
        omega
      · rw [if_neg (by omega)]
        exact Array.getElem?_eq_none (by omega)
  obtain ⟨a, b, c, d, e⟩ := w'
  obtain ⟨a', b', c', d', e'⟩ := W
  have h1 := h.os
  have h2 := h.tape
  have h3 := h.output
  simp only at h1 h2 h3 hh hd
  subst h1 h2 h3
  simp only [Go.Sort.grow, World.drewN, World.mk.injEq, true_and, and_true]
  exact ⟨hh, by omega⟩
theorem sorted_belowM {w : World} {g : Nat} {α : Type} [Inhabited α] (enc : α → List Value) (m : Nat) (dk : Array α) (os : Array Obj) (B : Nat) (hB : B ≤ g) (hz : B ≤ w.heap.size) : Below B w (sortWorldK enc 2 w g 0 m dk os) := by
  refine ⟨rfl, rfl, rfl, size_sortWorldK_c enc 2 w g 0 m dk os, fun k hk => ?_⟩
  unfold sortWorldK
  rw [Go.Sort.heap_grow_old _ _ (by rw [Go.Sort.size_putRowK]; show k < w.heap.size; omega)]
  unfold Go.Sort.putRowK Go.Sort.putRow
  show (Array.modify (Go.Sort.ahead w m).heap g _)[k]? = _
  rw [Array.getElem?_modify, if_neg (by omega)]
  rfl
end Ve
end Go.Proofs.YtnkgjddkdikikaaGreatDoor
namespace Go.Proofs.YtnkgjddkdikikaaGreatDoor
open Go.RowKit
namespace Ve
def Mr (w0 W : World) (v : Value) (D : List Bm) : Prop := Below w0.heap.size w0 W ∧ ∃ a cap, v = .slice a D.length cap ∧ D.length ≤ cap ∧ ((D = [] ∧ (a = none → cap = 0)) ∨ ∃ g, a = some ⟨g, 0, none⟩ ∧ Mw w0 W g D)
theorem Mr.ms {w0 W : World} {v : Value} {D : List Bm} (h : Mr w0 W v D) : MsAt W v D := by
  obtain ⟨_, a, cap, rfl, hc, ⟨rfl, _⟩ | ⟨g, rfl, h⟩⟩ := h
  · exact ⟨a, cap, rfl, hc, fun h => absurd rfl h⟩
  · exact h.ms hc
theorem Mr.em {w0 W : World} {v : Value} {D : List Bm} (h : Mr w0 W v D) : Em v D := by
  obtain ⟨_, a, cap, rfl, hc, h⟩ := h
  intro a' c' e hD
  injection e with e1 e2 e3
  subst e1 e3
  cases a with
  | some a' => exact Or.inr ⟨a', rfl⟩
  | none =>
    rcases h with ⟨_, h0⟩ | ⟨g, h, _⟩
    · rw [h0 rfl]; exact Or.inl rfl
    · cases h
theorem mr_own {w0 W : World} {v : Value} {L : List Bm} (h : W.ownsRow w0.heap.size 35 2 v L.length (flatM L)) (hb : Below w0.heap.size w0 W) : Mr w0 W v L := by
  by_cases hL : L = []
  · subst hL
    obtain ⟨_, ⟨rfl, _⟩ | ⟨g, cap, cur, rfl, _, _, _, _⟩⟩ := h
    · exact ⟨hb, none, 0, rfl, Nat.le_refl _, Or.inl ⟨rfl, fun _ => rfl⟩⟩
    · exact ⟨hb, _, cap, rfl, Nat.zero_le _, Or.inl ⟨rfl, fun h => by cases h⟩⟩
  · obtain ⟨g, cap, rfl, h1, _, h3⟩ := own_mw h hb hL
    exact ⟨hb, _, cap, rfl, h1, Or.inr ⟨g, rfl, h3⟩⟩
theorem Mr.base {w w0 W : World} {v : Value} {D : List Bm} (h : Mr w0 W v D) (hb : Below w.heap.size w w0) : Mr w W v D := by
  obtain ⟨h1, a, cap, rfl, hc, hk⟩ := h
  refine ⟨hb.trans (h1.mono hb.size), a, cap, rfl, hc, ?_⟩
  rcases hk with hk | ⟨g, rfl, hM⟩
  · exact Or.inl hk
  · exact Or.inr ⟨g, rfl, hb.trans (h1.mono hb.size), Nat.le_trans hb.size hM.lo, hM.hi, hM.fz, hM.c0, hM.c1⟩
theorem Mr.sl {w0 W : World} {v : Value} {D : List Bm} (h : Mr w0 W v D) : ∃ a c, v = .slice a D.length c := by
  obtain ⟨_, a, cap, rfl, _⟩ := h
  exact ⟨a, cap, rfl⟩
theorem Jn.nil : Jn [] [] := ⟨List.Pairwise.nil, fun _ h => absurd h (by simp), fun _ h => absurd h (by simp)⟩
end Ve
end Go.Proofs.YtnkgjddkdikikaaGreatDoor
namespace Go.Proofs.YtnkgjddkdikikaaGreatDoor
open Go.RowKit Go.Maps
namespace Ve
theorem Bt.ri {Q : List Raw} {L : List Ent} {roots E : List Bm} (h : Bt Q L roots E) : rising E := by
  obtain ⟨T, c, j, _⟩ := h.c
  exact j.ri
theorem Bt.len {w : World} {v : Value} {Q : List Raw} {L : List Ent} {a E : List Bm} (h : Bt Q L a E) (I : Ixs w v Q L) : E.length ≤ L.length := by
  obtain ⟨T, _, _, hl⟩ := h.c
  exact Nat.le_trans hl (goM_lenJ I T)
end Ve
end Go.Proofs.YtnkgjddkdikikaaGreatDoor
namespace Go.Proofs.YtnkgjddkdikikaaGreatDoor
open Go.RowKit
namespace Ve
theorem path_pos {l : List UInt8} (h : pathErr l = 0) : 0 < l.length := by
  rcases Nat.eq_zero_or_pos l.length with h0 | h0
  · have : l = [] := List.length_eq_zero_iff.1 h0
    subst this
    exact absurd h (by decide)
  · exact h0
theorem slF_ok {w : World} {v : Value} {Q : List Raw} {L : List Ent} (I : Ixs w v Q L) {R : List Bm} (h : ∀ m, m ∈ R → m ∈ univ L) : slF Q R = (0, none) :=
  nonE_good fun j hj => by
    obtain ⟨k, hk⟩ := (found_iff I R[j]).1 (h _ (List.getElem_mem hj))
    rw [hk]; omega
theorem alF_ok {w : World} {v : Value} {Q : List Raw} {L : List Ent} (I : Ixs w v Q L) (hc : (chk Q L).1 = 0) {R : List Bm} (h : ∀ m, m ∈ R → m ∈ univ L) : alF Q L R = (0, none) := by
  unfold alF
  rw [if_neg (by simp [hc]), slF_ok I h]
theorem alX_ok {w : World} {v : Value} {Q : List Raw} {L : List Ent} (I : Ixs w v Q L) (hc : (chk Q L).1 = 0) {R : List Bm} (h : ∀ m, m ∈ R → m ∈ univ L) : alX Q L R = alN Q L R := by
  unfold alX
  rw [alF_ok I hc h, if_pos rfl]
theorem ent_key {w : World} {v : Value} {Q : List Raw} {L : List Ent} (I : Ixs w v Q L) {m : Bm} (hm : m ∈ univ L) : (entOf Q L m).1 = m := by
  obtain ⟨k, hk, e1, e2⟩ := idx_univ I hm
  have hk' : k < L.length := by simpa [univ] using hk
  rw [entOf_at e1 hk']
  simpa [univ] using e2
theorem alN_one {Q : List Raw} {L : List Ent} {m : Bm} {s : ByteArray} : s ∈ alN Q L [m] ↔ s ∈ pkOf Q L m := by
  rw [alN_mem]
  constructor
  · rintro ⟨x, hx, h⟩
    rw [List.mem_singleton.1 hx] at h; exact h
  · intro h; exact ⟨m, List.mem_singleton.2 rfl, h⟩
end Ve
end Go.Proofs.YtnkgjddkdikikaaGreatDoor
namespace Go.Proofs.YtnkgjddkdikikaaGreatDoor
open Go.RowKit Go.Maps
namespace Ve
structure Sl (L : List Ent) (E : List Bm) : Prop where
  ri : rising E
  un : ∀ m, m ∈ E → m ∈ univ L
end Ve
end Go.Proofs.YtnkgjddkdikikaaGreatDoor
namespace Go.Proofs.YtnkgjddkdikikaaGreatDoor
open Go.RowKit Go.Maps
namespace Ve
def nextB (X : List Bm) (i : Nat) (p : ByteArray) : Bool := match X[i + 1]? with
  | some y => decide (y.1 = p)
  | none => false
def lastN (X : List Bm) : Nat → List Bm
  | 0 => []
  | i + 1 => lastN X i ++ match X[i]? with
    | some x => if nextB X i x.1 then [] else [x]
    | none => []
noncomputable def bX (Q : List Raw) (L : List Ent) (roots : List Bm) : List Bm := lastN (rX Q L roots) (rX Q L roots).length
theorem Mr.below {w0 W W' : World} {v : Value} {D : List Bm} (h : Mr w0 W v D) (hb : Below W.heap.size W W') : Mr w0 W' v D := by
  obtain ⟨h1, a, cap, rfl, hc, hk⟩ := h
  refine ⟨h1.trans (hb.mono h1.size), a, cap, rfl, hc, ?_⟩
  rcases hk with hk | ⟨g, rfl, hM⟩
  · exact Or.inl hk
  · exact Or.inr ⟨g, rfl, hM.below hb⟩
end Ve
end Go.Proofs.YtnkgjddkdikikaaGreatDoor
namespace Go.Proofs.YtnkgjddkdikikaaGreatDoor
open Go.RowKit
namespace Ve
abbrev plen (m : Bm) : Nat := m.1.size
theorem hv_next {Q : List Raw} {L : List Ent} {R : List Bm} {p : ByteArray} {k : Nat} (hk : k < R.length) : hvL Q L (R.take (k + 1)) p = if inB p (pkOf Q L R[k]) then hvL Q L (R.take k) p ++ [R[k]] else hvL Q L (R.take k) p := by
  unfold hvL
  rw [List.take_succ_eq_append_getElem hk, List.filter_append]
  cases h : inB p (pkOf Q L R[k])
  · rw [List.filter_cons_of_neg (by rw [h]; simp)]; simp
  · rw [List.filter_cons_of_pos (by rw [h])]; simp
theorem hv_le (Q : List Raw) (L : List Ent) (R : List Bm) (p : ByteArray) (k : Nat) : (hvL Q L (R.take k) p).length ≤ k := by
  unfold hvL
  exact Nat.le_trans (List.length_filter_le _ _) (by rw [List.length_take]; omega)
theorem hv_mem {Q : List Raw} {L : List Ent} {R : List Bm} {p : ByteArray} {m : Bm} : m ∈ hvL Q L R p ↔ m ∈ R ∧ p ∈ pkOf Q L m := by
  unfold hvL
  rw [List.mem_filter, inB_iff]
theorem bst_hv (Q : List Raw) (L : List Ent) (p : ByteArray) : ∀ (R : List Bm) (b : Bm), R.foldl (bstS Q L p) b = (hvL Q L R p).foldl (topS plen) b
  | [], _ => rfl
  | m :: R, b => by
    have ih := bst_hv Q L p R
    unfold hvL at ih ⊢
    rw [List.foldl_cons]
    cases h : inB p (pkOf Q L m)
    · rw [List.filter_cons_of_neg (by rw [h]; simp), ih]
      congr 1
      unfold bstS
      rw [h]; simp
    · rw [List.filter_cons_of_pos (by rw [h]), List.foldl_cons, ih]
      congr 1
      unfold bstS topS plen
      rw [h]; simp
theorem bstN_hv (Q : List Raw) (L : List Ent) (p : ByteArray) (R : List Bm) : bstN Q L p R R.length = (hvL Q L R p).foldl (topS plen) (⟨#[]⟩, ⟨#[]⟩) := by
  unfold bstN
  rw [List.take_length, bst_hv]
def slN (l : List UInt8) : Nat := l.count 47
theorem elems_sl (l : List UInt8) : (elems l).length = slN l + 1 := by
  unfold elems slN
  induction l with
  | nil => rfl
  | cons b l ih =>
    unfold cutAt
    by_cases h : b = 47
    · rw [if_pos h, List.length_cons, ih, h, List.count_cons_self]
    · rw [if_neg h, ahead_len _ _ (cutAt_ne 47 l), ih, List.count_cons_of_ne h]
theorem path_few {l : List UInt8} (h : pathErr l = 0) : slN l < 5 := by
  have h1 : longE l = false := by
    unfold pathErr at h
    cases hb : badE l
    · cases hl : longE l
      · rfl
      · rw [hb, hl] at h; simp at h
    · rw [hb] at h; simp at h
  unfold longE at h1
  rw [Bool.or_eq_false_iff] at h1
  have := of_decide_eq_false h1.1
  have := elems_sl l
  omega
def begP (t s : List UInt8) : Prop := s = t ∨ ∃ r, s = t ++ 47 :: r
theorem packT_beg (t x : ByteArray) : begP t.data.toList (packT t x).data.toList := by
  unfold packT
  split
  · exact Or.inl rfl
  · refine Or.inr ⟨x.data.toList, ?_⟩
    simp
theorem beg_less {t u s : List UInt8} (h1 : begP t s) (h2 : begP u s) (h : t.length < u.length) : slN t < slN u := by
  have ht : ∃ r, s = t ++ 47 :: r := by
    rcases h1 with h1 | h1
    · exfalso
      rcases h2 with h2 | ⟨r, h2⟩
      · rw [← h1, ← h2] at h; omega
      · rw [h1] at h2
        have := congrArg List.length h2
        simp at this
        omega
    · exact h1
  obtain ⟨r, hr⟩ := ht
  have hu : u = s.take u.length := by
    rcases h2 with h2 | ⟨r', h2⟩
    · rw [h2, List.take_length]
    · rw [h2, List.take_left]
  have : u = t ++ 47 :: r.take (u.length - t.length - 1) := by
    rw [hr] at hu
    have e : u.length = t.length + (u.length - t.length - 1 + 1) := by omega
    conv at hu => rhs; rw [e]
    rw [List.take_length_add_append, List.take_succ_cons] at hu
    exact hu
  rw [this]
  unfold slN
  rw [List.count_append, List.count_cons_self]
  omega
theorem beg_one {t u : ByteArray} {s : List UInt8} (h1 : begP t.data.toList s) (h2 : begP u.data.toList s) (h : slN t.data.toList = slN u.data.toList) : t = u := by
  rcases Nat.lt_trichotomy t.data.toList.length u.data.toList.length with h3 | h3 | h3
  · have := beg_less h1 h2 h3; omega
  · have e : ∀ x : List UInt8, begP x s → x = s.take x.length := fun x hx => by
      rcases hx with hx | ⟨r, hx⟩
      · rw [hx, List.take_length]
      · rw [hx, List.take_left]
    refine str_ext ?_
    rw [e _ h1, e _ h2, h3]
  · have := beg_less h2 h1 h3; omega
theorem hv_few {w : World} {v : Value} {Q : List Raw} {L : List Ent} (I : Ixs w v Q L) (hc : (chk Q L).1 = 0) {R : List Bm} (hR : ∀ m, m ∈ R → m ∈ univ L) (hn : (R.map fun m => m.1).Nodup) (p : ByteArray) : (hvL Q L R p).length ≤ 19 := by
  have key : ∀ m, m ∈ hvL Q L R p → begP m.1.data.toList p.data.toList ∧ slN m.1.data.toList < 5 := fun m hm => by
    obtain ⟨h1, h2⟩ := hv_mem.1 hm
    refine ⟨?_, ?_⟩
    · unfold pkOf packL at h2
      obtain ⟨x, _, rfl⟩ := List.mem_map.1 h2
      rw [ent_key I (hR m h1)]
      exact packT_beg _ _
    · have hu := hR m h1
      rw [← univ_eq I] at hu
      obtain ⟨r, hr, rfl⟩ := List.mem_map.1 hu
      exact path_few ((good_of I hc).path r hr)
  have hnd : ((hvL Q L R p).map fun m => slN m.1.data.toList).Nodup := by
    have h1 : ((hvL Q L R p).map fun m => m.1).Nodup := by
      unfold hvL
      exact List.Pairwise.sublist (List.Sublist.map _ List.filter_sublist) hn
    unfold List.Nodup at h1 ⊢
    rw [List.pairwise_map] at h1 ⊢
    exact List.Pairwise.imp_of_mem (fun {a b} ha hb hne he => hne (beg_one (key a ha).1 (key b hb).1 he)) h1
  have := nd_len _ (List.range 5) hnd (fun x hx => by
    obtain ⟨m, hm, rfl⟩ := List.mem_map.1 hx
    exact List.mem_range.2 (key m hm).2)
  rw [List.length_map, List.length_range] at this
  omega
end Ve
end Go.Proofs.YtnkgjddkdikikaaGreatDoor
namespace Go.Proofs.YtnkgjddkdikikaaGreatDoor
open Go.RowKit Go.Maps
namespace Ve
abbrev KeptT (Q : List Raw) (t : ByteArray) (X : List ByteArray) : Prop := Kept (verL (bestR (ofP t Q))) (verL (bestR (ofP t Q))).length X
open Classical in
noncomputable def latV (Q : List Raw) (t : ByteArray) : ByteArray := if h : ∃ X, KeptT Q t X then lastT h.choose else ⟨#[]⟩
noncomputable def latL (Q : List Raw) (E : List Bm) : List Bm := E.map fun m => (m.1, latV Q m.1)
def LatIn (Q : List Raw) (L : List Ent) (E : List Bm) : Prop := ∀ m, m ∈ E → (m.1, latV Q m.1) ∈ univ L
noncomputable def upF (Q : List Raw) (L : List Ent) (E : List Bm) : List Bm := bX Q L (E ++ latL Q E)
noncomputable def upN (Q : List Raw) (L : List Ent) (E : List Bm) : Nat → List Bm
  | 0 => E
  | n + 1 => upF Q L (upN Q L E n)
structure Fix (Q : List Raw) (L : List Ent) (E0 E : List Bm) : Prop where
  n : ∃ n, E = upN Q L E0 n
  f : upF Q L E = E
end Ve
end Go.Proofs.YtnkgjddkdikikaaGreatDoor
namespace Go.Proofs.YtnkgjddkdikikaaGreatDoor
open Go.RowKit Go.Maps
namespace Ve
structure AllR (Q : List Raw) (L : List Ent) (roots E : List Bm) : Prop where
  fx : Fix Q L (bX Q L roots) E
  sl : Sl L E
  la : LatIn Q L E
  ov : undB (bX Q L roots) E = true
end Ve
end Go.Proofs.YtnkgjddkdikikaaGreatDoor
namespace Go.Proofs.YtnkgjddkdikikaaGreatDoor
open Go.RowKit
namespace Ve
def DsT (w : World) : Prop := ∃ A m, Te w A m ∧ Ds w A
theorem ptr_one {a b : Addr} {T : TypeId} {x : Option Value} (h1 : x = some (.iface T (.pointer (some a)))) (h2 : x = some (.iface T (.pointer (some b)))) : a = b := by
  rw [h1] at h2
  injection h2 with h2
  injection h2 with _ h2
  injection h2 with h2
  injection h2
theorem ds_of {w : World} {A : Nat → Addr} {m : Int} (h : DsT w) (S : Te w A m) : Ds w A := by
  obtain ⟨B, n, S', D⟩ := h
  have e0 : B 0 = A 0 := ptr_one S'.sen.g0 S.sen.g0
  have e1 : B 1 = A 1 := ptr_one S'.sen.g1 S.sen.g1
  have e3 : B 3 = A 3 := ptr_one S'.sen.g3 S.sen.g3
  have b0 := D.b0
  have b1 := D.b1
  have b3 := D.b3
  have n0 := D.n0
  have n1 := D.n1
  rw [e0] at b0 n0
  rw [e1] at b1 n1
  rw [e3] at b3 n0 n1
  exact ⟨b0, b1, b3, n0, n1⟩
theorem ds_stay : StayK DsT := fun _ _ ⟨A, m, S, D⟩ hb => ⟨A, m, S.below hb, D.below hb⟩
end Ve
end Go.Proofs.YtnkgjddkdikikaaGreatDoor
namespace Go.Proofs.YtnkgjddkdikikaaGreatDoor
open Go.RowKit Go.Maps
namespace Ve
structure Pb (w W : World) (fb : Nat) (c a : Int) : Prop where
  bl : Below w.heap.size w W
  e : W.heap[w.heap.size]? = some (.cells #[.int .i64 0, .int .i64 0] 62 (0, 0))
  f : W.heap[fb]? = some (.cells #[.int .i64 c, .int .i64 a] 62 (0, 0))
  ge : w.heap.size + 1 ≤ fb
theorem Pb.below {w W W' : World} {fb : Nat} {c a : Int} (h : Pb w W fb c a) (hb : Below W.heap.size W W') : Pb w W' fb c a :=
  ⟨h.bl.trans (hb.mono h.bl.size), (hb.block _ (lt_of_blk h.e)).trans h.e, (hb.block _ (lt_of_blk h.f)).trans h.f, h.ge⟩
theorem Pb.cells {w W : World} {fb : Nat} {c a : Int} (h : Pb w W fb c a) : (W.cell? ⟨w.heap.size, 0, none⟩ = some (.int .i64 0) ∧ W.cell? ⟨w.heap.size, 1, none⟩ = some (.int .i64 0) ∧ ∀ o, W.frozen? ⟨w.heap.size, o, none⟩ = false) ∧
    (W.cell? ⟨fb, 0, none⟩ = some (.int .i64 c) ∧ W.cell? ⟨fb, 1, none⟩ = some (.int .i64 a) ∧ ∀ o, W.frozen? ⟨fb, o, none⟩ = false) := ⟨bx2 h.e, bx2 h.f⟩
structure Pr (w W : World) (fb : Nat) (u : Value) (X : List ByteArray) : Prop where
  pb : Pb w W fb 0 (-1)
  own : W.ownsRow (fb + 1) 9 1 u X.length (X.map Value.string)
  nl : X = [] → u = .slice none 0 0
theorem Pr.below {w W W' : World} {fb : Nat} {u : Value} {X : List ByteArray} (h : Pr w W fb u X) (hb : Below W.heap.size W W') : Pr w W' fb u X :=
  ⟨h.pb.below hb, owns_below h.own hb, h.nl⟩
end Ve
end Go.Proofs.YtnkgjddkdikikaaGreatDoor
