/-
  QrP QrE QrA QrQ QsP QkP
-/
import Derived.Test.YtnkgjddkdikikaaGreatDoorPq7
import Derived.Test.YtnkgjddkdikikaaGreatDoorPq10
import Derived.Test.YtnkgjddkdikikaaGreatDoorPq23
import Derived.Test.YtnkgjddkdikikaaGreatDoorPq8
import Derived.Test.YtnkgjddkdikikaaGreatDoorPq61
import Derived.Test.YtnkgjddkdikikaaGreatDoorPq2
import Derived.Test.YtnkgjddkdikikaaGreatDoorPq4
import Derived.Test.YtnkgjddkdikikaaGreatDoorPq13
import Derived.Test.YtnkgjddkdikikaaGreatDoorPq27
import Derived.Test.YtnkgjddkdikikaaGreatDoorPq29
import Derived.Test.YtnkgjddkdikikaaGreatDoorPq12
import Derived.Test.YtnkgjddkdikikaaGreatDoorPq5
import Derived.Test.YtnkgjddkdikikaaGreatDoorPq34
import Derived.Test.YtnkgjddkdikikaaGreatDoorPq24
import Derived.Deep.RegionHeld
import Derived.Test.YtnkgjddkdikikaaGreatDoorPq31
import Derived.Test.YtnkgjddkdikikaaGreatDoorPq32
import Derived.Test.YtnkgjddkdikikaaGreatDoorPq3
import Derived.Test.YtnkgjddkdikikaaGreatDoorPq16
import Derived.Test.YtnkgjddkdikikaaGreatDoorPq37
namespace Go.Proofs.YtnkgjddkdikikaaGreatDoor
open Go.RowKit
namespace Ve
def bLatest : ByteArray := ⟨#[108, 97, 116, 101, 115, 116]⟩
def bUpgrade : ByteArray := ⟨#[117, 112, 103, 114, 97, 100, 101]⟩
def bPatch : ByteArray := ⟨#[112, 97, 116, 99, 104]⟩
def bNone : ByteArray := ⟨#[110, 111, 110, 101]⟩
def bE : ByteArray := ⟨#[]⟩
def sLe : ByteArray := ⟨#[60, 61]⟩
def sGe : ByteArray := ⟨#[62, 61]⟩
def sLt : ByteArray := ⟨#[60]⟩
def sGt : ByteArray := ⟨#[62]⟩
def isWd (q : ByteArray) : Bool := decide (q = bLatest) || decide (q = bUpgrade) || decide (q = bPatch) || decide (q = bNone)
def sgn (q : ByteArray) : ByteArray × ByteArray :=
  if begB q sLe then (sLe, q.extract 2 q.size) else if begB q sGe then (sGe, q.extract 2 q.size) else if begB q sLt then (sLt, q.extract 1 q.size) else if begB q sGt then (sGt, q.extract 1 q.size) else (bE, q)
theorem sgn_size (q : ByteArray) : (sgn q).2.size ≤ q.size := by
  unfold sgn
  repeat' split
  all_goals simp [ByteArray.size_extract] <;> omega
def qErr (q : ByteArray) : Nat :=
  if isWd q then 0 else if (sgn q).1 ≠ bE ∨ verErr (sgn q).2.data.toList ≠ 1 then verErr (sgn q).2.data.toList else headErr q.data.toList
def suitB (q v : ByteArray) : Bool :=
  if (sgn q).1 = sLt then lessB v.data.toList (sgn q).2.data.toList
  else if (sgn q).1 = sLe then !lessB (sgn q).2.data.toList v.data.toList
  else if (sgn q).1 = sGt then lessB (sgn q).2.data.toList v.data.toList
  else if (sgn q).1 = sGe then !lessB v.data.toList (sgn q).2.data.toList
  else if verErr q.data.toList = 0 then decide (v = q) else beginB v q
theorem sgn_kind (q : ByteArray) : (sgn q).1 = sLe ∨ (sgn q).1 = sGe ∨ (sgn q).1 = sLt ∨ (sgn q).1 = sGt ∨ ((sgn q).1 = bE ∧ (sgn q).2 = q) := by
  unfold sgn
  repeat' split
  · exact Or.inl rfl
  · exact Or.inr (Or.inl rfl)
  · exact Or.inr (Or.inr (Or.inl rfl))
  · exact Or.inr (Or.inr (Or.inr (Or.inl rfl)))
  · exact Or.inr (Or.inr (Or.inr (Or.inr ⟨rfl, rfl⟩)))
theorem sg_ne1 : sLe ≠ sGe := fun e => absurd (congrArg (fun m : ByteArray => m.data) e) (by decide)
theorem sg_ne2 : sLe ≠ sLt := fun e => absurd (congrArg (fun m : ByteArray => m.data) e) (by decide)
theorem sg_ne3 : sLe ≠ sGt := fun e => absurd (congrArg (fun m : ByteArray => m.data) e) (by decide)
theorem sg_ne4 : sLe ≠ bE := fun e => absurd (congrArg (fun m : ByteArray => m.data) e) (by decide)
theorem sg_ne5 : sGe ≠ sLt := fun e => absurd (congrArg (fun m : ByteArray => m.data) e) (by decide)
theorem sg_ne6 : sGe ≠ sGt := fun e => absurd (congrArg (fun m : ByteArray => m.data) e) (by decide)
theorem sg_ne7 : sGe ≠ bE := fun e => absurd (congrArg (fun m : ByteArray => m.data) e) (by decide)
theorem sg_ne8 : sLt ≠ sGt := fun e => absurd (congrArg (fun m : ByteArray => m.data) e) (by decide)
theorem sg_ne9 : sLt ≠ bE := fun e => absurd (congrArg (fun m : ByteArray => m.data) e) (by decide)
theorem sg_ne10 : sGt ≠ bE := fun e => absurd (congrArg (fun m : ByteArray => m.data) e) (by decide)
theorem suit_lt {q v : ByteArray} (h : (sgn q).1 = sLt) : suitB q v = lessB v.data.toList (sgn q).2.data.toList := if_pos h
theorem suit_le {q v : ByteArray} (h : (sgn q).1 = sLe) : suitB q v = !lessB (sgn q).2.data.toList v.data.toList := by
  unfold suitB; rw [if_neg (by rw [h]; exact sg_ne2), if_pos h]
theorem suit_gt {q v : ByteArray} (h : (sgn q).1 = sGt) : suitB q v = lessB (sgn q).2.data.toList v.data.toList := by
  unfold suitB; rw [if_neg (by rw [h]; exact sg_ne8.symm), if_neg (by rw [h]; exact sg_ne3.symm), if_pos h]
theorem suit_ge {q v : ByteArray} (h : (sgn q).1 = sGe) : suitB q v = !lessB v.data.toList (sgn q).2.data.toList := by
  unfold suitB; rw [if_neg (by rw [h]; exact sg_ne5), if_neg (by rw [h]; exact sg_ne1.symm), if_neg (by rw [h]; exact sg_ne6), if_pos h]
theorem suit_ver {q v : ByteArray} (h : (sgn q).1 = bE) (hv : verErr q.data.toList = 0) : suitB q v = decide (v = q) := by
  unfold suitB; rw [if_neg (by rw [h]; exact sg_ne9.symm), if_neg (by rw [h]; exact sg_ne4.symm), if_neg (by rw [h]; exact sg_ne10.symm), if_neg (by rw [h]; exact sg_ne7.symm), if_pos hv]
theorem suit_beg {q v : ByteArray} (h : (sgn q).1 = bE) (hv : ¬ verErr q.data.toList = 0) : suitB q v = beginB v q := by
  unfold suitB; rw [if_neg (by rw [h]; exact sg_ne9.symm), if_neg (by rw [h]; exact sg_ne4.symm), if_neg (by rw [h]; exact sg_ne10.symm), if_neg (by rw [h]; exact sg_ne7.symm), if_neg hv]
theorem qErr_word {q : ByteArray} (h : isWd q = true) : qErr q = 0 := if_pos h
theorem qErr_ver {q : ByteArray} (h : isWd q = false) (h2 : (sgn q).1 ≠ bE ∨ verErr (sgn q).2.data.toList ≠ 1) : qErr q = verErr (sgn q).2.data.toList := by unfold qErr; rw [if_neg (by rw [h]; simp), if_pos h2]
theorem qErr_head {q : ByteArray} (h : isWd q = false) (h2 : (sgn q).1 = bE) (h3 : verErr (sgn q).2.data.toList = 1) : qErr q = headErr q.data.toList := by
  unfold qErr
  rw [if_neg (by rw [h]; simp), if_neg]
  rintro (h | h)
  · exact h h2
  · exact h h3
end Ve
end Go.Proofs.YtnkgjddkdikikaaGreatDoor
namespace Go.Proofs.YtnkgjddkdikikaaGreatDoor
open Go.RowKit Go.Maps
namespace Ve
theorem verOf_both (s : ByteArray) (w : World) (hs : s.size < 4294967281) :
    Calls Tryz.prog 39 #[.string s] w fun e w' => ∃ (n0 n1 n2 : Int) (sa : Option Addr) (k cap : Nat), e = .returned (.tuple #[.agg #[.int .i64 n0, .int .i64 n1, .int .i64 n2, .slice sa k cap], .int .i64 ((verErr s.data.toList : Nat) : Int)]) ∧ (verErr s.data.toList = 0 → n0 = nAt s.data.toList 0 ∧ n1 = nAt s.data.toList 1) ∧ Below w.heap.size w w' := by
  refine (verOf_any s w hs).mono ?_
  rintro e w' ⟨⟨h0, rfl⟩ | ⟨h0, sa, cap, X2, rfl, -⟩, hb⟩
  · exact ⟨_, _, _, _, _, _, rfl, fun h => absurd h h0, hb⟩
  · exact ⟨_, _, _, _, _, _, by rw [h0]; rfl, fun _ => ⟨rfl, rfl⟩, hb⟩
structure Pk (w W : World) (u : Value) (X : List ByteArray) (vb : Nat) (n0 n1 : Int) : Prop where
  bl : Below w.heap.size w W
  tx : TxAt W u X
  c0 : W.cell? ⟨vb, 0, none⟩ = some (.int .i64 n0)
  c1 : W.cell? ⟨vb, 1, none⟩ = some (.int .i64 n1)
theorem Pk.below {w W W' : World} {u : Value} {X : List ByteArray} {vb : Nat} {n0 n1 : Int} (h : Pk w W u X vb n0 n1) (hb : Below W.heap.size W W') : Pk w W' u X vb n0 n1 :=
  ⟨h.bl.trans (hb.mono h.bl.size), h.tx.below hb, cell_below hb h.c0, cell_below hb h.c1⟩
theorem Pk.from {w W : World} {u : Value} {X : List ByteArray} {vb : Nat} {n0 n1 : Int} (h : Pk w w u X vb n0 n1) (hb : Below w.heap.size w W) : Pk w W u X vb n0 n1 :=
  ⟨hb, h.tx.below hb, cell_below hb h.c0, cell_below hb h.c1⟩
end Ve
end Go.Proofs.YtnkgjddkdikikaaGreatDoor
namespace Go.Proofs.YtnkgjddkdikikaaGreatDoor
open Go.RowKit
namespace Ve
theorem eqW (q b : ByteArray) : decide (q = b) = (q.toList == b.data.toList) := by
  by_cases h : q = b
  · subst h; simp [ByteArray.toList_eq]
  · rw [decide_eq_false h, ← ByteArray.toList_eq, str_ne h]
theorem sgn_0 {q : ByteArray} (h : begB q sLe = true) : sgn q = (sLe, q.extract 2 q.size) := by unfold sgn; rw [if_pos h]
theorem sgn_1 {q : ByteArray} (h0 : begB q sLe = false) (h : begB q sGe = true) : sgn q = (sGe, q.extract 2 q.size) := by unfold sgn; rw [if_neg (by rw [h0]; simp), if_pos h]
theorem sgn_2 {q : ByteArray} (h0 : begB q sLe = false) (h1 : begB q sGe = false) (h : begB q sLt = true) : sgn q = (sLt, q.extract 1 q.size) := by unfold sgn; rw [if_neg (by rw [h0]; simp), if_neg (by rw [h1]; simp), if_pos h]
theorem sgn_3 {q : ByteArray} (h0 : begB q sLe = false) (h1 : begB q sGe = false) (h2 : begB q sLt = false) (h : begB q sGt = true) : sgn q = (sGt, q.extract 1 q.size) := by unfold sgn; rw [if_neg (by rw [h0]; simp), if_neg (by rw [h1]; simp), if_neg (by rw [h2]; simp), if_pos h]
theorem sgn_4 {q : ByteArray} (h0 : begB q sLe = false) (h1 : begB q sGe = false) (h2 : begB q sLt = false) (h3 : begB q sGt = false) : sgn q = (bE, q) := by unfold sgn; rw [if_neg (by rw [h0]; simp), if_neg (by rw [h1]; simp), if_neg (by rw [h2]; simp), if_neg (by rw [h3]; simp)]
def sgAt : Nat → ByteArray
  | 0 => sLe
  | 1 => sGe
  | 2 => sLt
  | _ => sGt
end Ve
end Go.Proofs.YtnkgjddkdikikaaGreatDoor
namespace Go.Proofs.YtnkgjddkdikikaaGreatDoor
open Go.RowKit Go.Maps
namespace Ve
def okQ (q now v : ByteArray) : Bool :=
  if isWd q then (if q = bPatch ∧ verErr now.data.toList = 0 then decide (nAt v.data.toList 0 = nAt now.data.toList 0) && decide (nAt v.data.toList 1 = nAt now.data.toList 1) && !lessB v.data.toList now.data.toList else true) else suitB q v
def someQ (q now : ByteArray) (X : List ByteArray) : List ByteArray := X.filter (okQ q now)
theorem okQ_suit {q now v : ByteArray} (h : isWd q = false) : okQ q now v = suitB q v := by unfold okQ; rw [if_neg (by rw [h]; simp)]
theorem okQ_any {q now v : ByteArray} (h : isWd q = true) (h2 : ¬ (q = bPatch ∧ verErr now.data.toList = 0)) : okQ q now v = true := by unfold okQ; rw [if_pos h, if_neg h2]
theorem okQ_patch {now v : ByteArray} (h2 : verErr now.data.toList = 0) : okQ bPatch now v = (decide (nAt v.data.toList 0 = nAt now.data.toList 0) && decide (nAt v.data.toList 1 = nAt now.data.toList 1) && !lessB v.data.toList now.data.toList) := by
  unfold okQ
  rw [if_pos (by unfold isWd; simp), if_pos ⟨rfl, h2⟩]
def leastQ (q : ByteArray) : Bool := decide ((sgn q).1 = sGt) || decide ((sgn q).1 = sGe)
def likG (Q : List Raw) (t : ByteArray) (b : Bool) (X : List ByteArray) : ByteArray := if b then (likNL Q t X X.length).1 else (likN Q t X X.length).1
def pkB (Q : List Raw) (t q now : ByteArray) (X : List ByteArray) : ByteArray := likG Q t (leastQ q) (someQ q now X)
def pkF (Q : List Raw) (L : List Ent) (t q now : ByteArray) (X : List ByteArray) : Nat × Option Nat :=
  if qErr q ≠ 0 then (qErr q, none) else if (chk Q L).1 ≠ 0 then chk Q L else if q = bNone then (0, none) else if pkB Q t q now X = bE then (5, none) else (0, none)
def pkV (Q : List Raw) (L : List Ent) (t q now : ByteArray) (X : List ByteArray) : ByteArray :=
  if qErr q ≠ 0 then bE else if (chk Q L).1 ≠ 0 then bE else if q = bNone then bNone else if pkB Q t q now X = bE then bE else if q = bUpgrade then maxB (pkB Q t q now X) now else pkB Q t q now X
theorem pkF_q {Q : List Raw} {L : List Ent} {t q now : ByteArray} {X : List ByteArray} (h : qErr q ≠ 0) : pkF Q L t q now X = (qErr q, none) := if_pos h
theorem pkV_q {Q : List Raw} {L : List Ent} {t q now : ByteArray} {X : List ByteArray} (h : qErr q ≠ 0) : pkV Q L t q now X = bE := if_pos h
theorem pkF_c {Q : List Raw} {L : List Ent} {t q now : ByteArray} {X : List ByteArray} (h : ¬ qErr q ≠ 0) (h1 : (chk Q L).1 ≠ 0) : pkF Q L t q now X = chk Q L := by unfold pkF; rw [if_neg h, if_pos h1]
theorem pkV_c {Q : List Raw} {L : List Ent} {t q now : ByteArray} {X : List ByteArray} (h : ¬ qErr q ≠ 0) (h1 : (chk Q L).1 ≠ 0) : pkV Q L t q now X = bE := by unfold pkV; rw [if_neg h, if_pos h1]
theorem pkF_n {Q : List Raw} {L : List Ent} {t q now : ByteArray} {X : List ByteArray} (h : ¬ qErr q ≠ 0) (h1 : ¬ (chk Q L).1 ≠ 0) (h2 : q = bNone) : pkF Q L t q now X = (0, none) := by unfold pkF; rw [if_neg h, if_neg h1, if_pos h2]
theorem pkV_n {Q : List Raw} {L : List Ent} {t q now : ByteArray} {X : List ByteArray} (h : ¬ qErr q ≠ 0) (h1 : ¬ (chk Q L).1 ≠ 0) (h2 : q = bNone) : pkV Q L t q now X = bNone := by unfold pkV; rw [if_neg h, if_neg h1, if_pos h2]
theorem pkF_m {Q : List Raw} {L : List Ent} {t q now : ByteArray} {X : List ByteArray} (h : ¬ qErr q ≠ 0) (h1 : ¬ (chk Q L).1 ≠ 0) (h2 : ¬ q = bNone) : pkF Q L t q now X = if pkB Q t q now X = bE then (5, none) else (0, none) := by unfold pkF; rw [if_neg h, if_neg h1, if_neg h2]
theorem pkV_m {Q : List Raw} {L : List Ent} {t q now : ByteArray} {X : List ByteArray} (h : ¬ qErr q ≠ 0) (h1 : ¬ (chk Q L).1 ≠ 0) (h2 : ¬ q = bNone) : pkV Q L t q now X = if pkB Q t q now X = bE then bE else if q = bUpgrade then maxB (pkB Q t q now X) now else pkB Q t q now X := by unfold pkV; rw [if_neg h, if_neg h1, if_neg h2]
end Ve
end Go.Proofs.YtnkgjddkdikikaaGreatDoor
namespace Go.Proofs.YtnkgjddkdikikaaGreatDoor
open Go.RowKit Go.Maps
namespace Ve
def shortQ (Q : List Raw) : Prop := ∀ r, r ∈ Q → r.1.1.size ≤ 80 ∧ r.1.2.size ≤ 80
def look (Q : List Raw) (L : List Ent) (q : ByteArray) : Prop := qErr q = 0 ∧ (chk Q L).1 = 0 ∧ ¬ q = bNone
def CheckC : Prop := ∀ (q : ByteArray) (A : Nat → Addr) (m : Int) (w : World), q.size ≤ 100 → Te w A m →
  Calls Tryz.prog 35 #[.string q] w fun e w' => e = .returned (errA A (qErr q)) ∧ Below w.heap.size w w'
def KeepT (T : World → Prop) : Prop := ∀ W W', T W → Below W.heap.size W W' → T W'
def PickC (T : World → Prop) : Prop := ∀ (Q : List Raw) (L : List Ent) (t q now : ByteArray) (v : Value) (A : Nat → Addr) (m : Int) (w : World), L.length ≤ 200 → (∀ e, e ∈ L → ShE e) → shortQ Q → t.size ≤ 100 → q.size ≤ 100 → now.size ≤ 100 → Te w A m → T w → Ixs w v Q L →
  Calls Tryz.prog 33 #[v, .string t, .string q, .string now] w fun e w' => ∃ X x, (look Q L q → Kept (verL (ofP t Q)) (verL (ofP t Q)).length X) ∧ e = .returned (.tuple #[.string (pkV Q L t q now X), x]) ∧ ErrAt w' A x (pkF Q L t q now X).1 (pkF Q L t q now X).2 ∧ Below w.heap.size w w'
end Ve
end Go.Proofs.YtnkgjddkdikikaaGreatDoor
namespace Go.Proofs.YtnkgjddkdikikaaGreatDoor
open Go.RowKit Go.Maps
namespace Ve
def fitR (q now : ByteArray) (Q : List Raw) : List Raw := Q.filter fun r => okQ q now r.1.2
theorem Good.filter {Q : List Raw} (g : Good Q) (P : Raw → Bool) : Good (Q.filter P) := by
  have hp : (Q.filter P).Pairwise fun r s => r.1 ≠ s.1 := List.Pairwise.sublist List.filter_sublist g.pair
  refine ⟨fun r hr => g.ver r (List.mem_filter.1 hr).1, fun r hr => g.path r (List.mem_filter.1 hr).1, fun i j hi hj e => ?_⟩
  rcases Nat.lt_trichotomy i j with h | h | h
  · exact absurd e (List.pairwise_iff_getElem.1 hp i j hi hj h)
  · exact h
  · exact absurd e.symm (List.pairwise_iff_getElem.1 hp j i hj hi h)
theorem ris_lt {X : List ByteArray} (h : rises (bl X)) {i j : Nat} (hi : i < X.length) (hj : j < X.length) (hij : i < j) : ordV X[i].data.toList X[j].data.toList < 0 := by
  have hbl : (bl X).length = X.length := bl_len X
  have h4 := List.pairwise_iff_getElem.1 h i j (by omega) (by omega) hij
  rw [bl_get hi, bl_get hj] at h4
  exact h4
theorem kept_fit {Q : List Raw} (g : Good Q) {t q now : ByteArray} {X : List ByteArray} (hK : Kept (verL (ofP t Q)) (verL (ofP t Q)).length X) :
    Kept (verL (ofP t (fitR q now Q))) (verL (ofP t (fitR q now Q))).length (someQ q now X) := by
  have g' : Good (fitR q now Q) := g.filter _
  refine ⟨?_, fun s => ?_⟩
  · have := hK.1
    unfold rises bl at this ⊢
    exact List.pairwise_map.2 (List.Pairwise.filter _ (List.pairwise_map.1 this))
  · rw [List.take_length]
    constructor
    · intro hs
      obtain ⟨x, hx, rfl⟩ := List.mem_map.1 hs
      obtain ⟨hx1, hx2⟩ := List.mem_filter.1 hx
      obtain ⟨r, hr, e⟩ := kept_has g ofP_sub hK hx1
      have h1 := g.ofP_mem.1 hr
      have hr' : r ∈ ofP t (fitR q now Q) := g'.ofP_mem.2 ⟨List.mem_filter.2 ⟨h1.1, by rw [e]; exact hx2⟩, h1.2⟩
      refine ⟨List.mem_map.2 ⟨x, List.mem_map.2 ⟨r, hr', e⟩, rfl⟩, ?_⟩
      rw [← e]; exact g.ver r h1.1
    · rintro ⟨hs, _⟩
      obtain ⟨x, hx, rfl⟩ := List.mem_map.1 hs
      obtain ⟨r, hr, rfl⟩ := List.mem_map.1 hx
      have h1 := g'.ofP_mem.1 hr
      have h2 := List.mem_filter.1 h1.1
      have h3 := kept_in g ofP_sub hK (g.ofP_mem.2 ⟨h2.1, h1.2⟩)
      exact List.mem_map.2 ⟨r.1.2, List.mem_filter.2 ⟨h3, h2.2⟩, rfl⟩
theorem rkV_fit {Q : List Raw} (g : Good Q) {t q now : ByteArray} {X : List ByteArray} (hK : Kept (verL (ofP t Q)) (verL (ofP t Q)).length X) {v : ByteArray} (hv : v ∈ someQ q now X) : rkV Q t v = rkV (fitR q now Q) t v := by
  have g' : Good (fitR q now Q) := g.filter _
  obtain ⟨hx1, hx2⟩ := List.mem_filter.1 hv
  obtain ⟨r, hr, rfl⟩ := kept_has g ofP_sub hK hx1
  have h1 := g.ofP_mem.1 hr
  have h2 := rkV_at g h1.1
  have h3 := rkV_at g' (show r ∈ fitR q now Q from List.mem_filter.2 ⟨h1.1, hx2⟩)
  rw [h1.2] at h2 h3
  rw [h2, h3]
theorem foldl_on {α β : Type} {f f' : α → β → α} : ∀ (l : List β) (s : α), (∀ v, v ∈ l → ∀ s, f s v = f' s v) → l.foldl f s = l.foldl f' s
  | [], _, _ => rfl
  | x :: l, s, h => by
    rw [List.foldl_cons, List.foldl_cons, h x (List.mem_cons_self ..)]
    exact foldl_on l _ fun v hv => h v (List.mem_cons_of_mem _ hv)
theorem lik_fit {Q : List Raw} (g : Good Q) {t q now : ByteArray} {X : List ByteArray} (hK : Kept (verL (ofP t Q)) (verL (ofP t Q)).length X) (b : Bool) : likG Q t b (someQ q now X) = likG (fitR q now Q) t b (someQ q now X) := by
  unfold likG likN likNL
  rw [List.take_length]
  rw [foldl_on (f := likS Q t) (f' := likS (fitR q now Q) t) _ _ fun v hv s => by unfold likS; rw [rkV_fit g hK hv]]
  rw [foldl_on (f := likSL Q t) (f' := likSL (fitR q now Q) t) _ _ fun v hv s => by unfold likSL; rw [rkV_fit g hK hv]]
def headT (X : List ByteArray) : ByteArray := X.head?.getD ⟨#[]⟩
theorem headT_get {X : List ByteArray} (h : 0 < X.length) : headT X = X[0] := by
  cases X with
  | nil => simp at h
  | cons x r => rfl
theorem kept_void {Q : List Raw} (g : Good Q) {t : ByteArray} {X Y : List ByteArray} (hK : Kept (verL (ofP t Q)) (verL (ofP t Q)).length X) (hY : Kept (verL (bestR (ofP t Q))) (verL (bestR (ofP t Q))).length Y) : X = [] ↔ Y = [] := by
  constructor
  · intro hX
    subst hX
    have hne : ofP t Q = [] := by
      rw [List.eq_nil_iff_forall_not_mem]
      intro r hr
      have := kept_in g ofP_sub hK hr
      cases this
    have hb : bestR (ofP t Q) = [] := by rw [hne]; rfl
    rw [List.eq_nil_iff_forall_not_mem]
    intro y hy
    obtain ⟨r, hr, _⟩ := kept_has g (R := bestR (ofP t Q)) (fun r hr => ofP_sub r (bestR_sub hr)) hY hy
    rw [hb] at hr; cases hr
  · intro hY0
    subst hY0
    rw [List.eq_nil_iff_forall_not_mem]
    intro x hx
    obtain ⟨r, hr, _⟩ := kept_has g ofP_sub hK hx
    obtain ⟨s, hs⟩ := List.exists_mem_of_ne_nil _ (bestR_ne (List.ne_nil_of_mem hr))
    have := kept_in g (R := bestR (ofP t Q)) (fun r hr => ofP_sub r (bestR_sub hr)) hY hs
    cases this
theorem most_in {Q : List Raw} (g : Good Q) {t : ByteArray} {X Y : List ByteArray} (hK : Kept (verL (ofP t Q)) (verL (ofP t Q)).length X) (hY : Kept (verL (bestR (ofP t Q))) (verL (bestR (ofP t Q))).length Y) {j : Nat} (hj : j < X.length) :
    (∀ k (hk : k < X.length), rkV Q t X[k] ≤ rkV Q t X[j]) ↔ X[j] ∈ Y := by
  have hrank : ∀ s, s ∈ ofP t Q → rkV Q t s.1.2 = rnk s := fun s hs => by
    have h := g.ofP_mem.1 hs
    rw [← h.2]; exact rkV_at g h.1
  have hsub : ∀ r, r ∈ bestR (ofP t Q) → r ∈ Q := fun r hr => ofP_sub r (bestR_sub hr)
  obtain ⟨r, hr, er⟩ := kept_has g ofP_sub hK (List.getElem_mem hj)
  have hb : r ∈ bestR (ofP t Q) ↔ ∀ k (hk : k < X.length), rkV Q t X[k] ≤ rkV Q t X[j] := by
    rw [rnk_best g ofP_sub hr]
    constructor
    · intro h k hk
      obtain ⟨s, hs, es⟩ := kept_has g ofP_sub hK (List.getElem_mem hk)
      have := h s hs
      rw [← hrank s hs, ← hrank r hr, es, er] at this
      exact this
    · intro h s hs
      obtain ⟨k, hk, e⟩ := List.getElem_of_mem (kept_in g ofP_sub hK hs)
      have := h k hk
      rw [e, hrank s hs, ← er, hrank r hr] at this
      exact this
  rw [← hb]
  constructor
  · intro h
    rw [← er]; exact kept_in g hsub hY h
  · intro h
    obtain ⟨s, hs, es⟩ := kept_has g hsub hY h
    have h1 := g.ofP_mem.1 (bestR_sub hs)
    have h2 := g.ofP_mem.1 hr
    rw [g.same h2.1 h1.1 (Prod.ext (h2.2.trans h1.2.symm) (er.trans es.symm))]
    exact hs
theorem best_mem {Q : List Raw} (g : Good Q) {t : ByteArray} {X Y : List ByteArray} (hK : Kept (verL (ofP t Q)) (verL (ofP t Q)).length X) (hY : Kept (verL (bestR (ofP t Q))) (verL (bestR (ofP t Q))).length Y) {y : ByteArray} (hy : y ∈ Y) : y ∈ X := by
  obtain ⟨s, hs, rfl⟩ := kept_has g (R := bestR (ofP t Q)) (fun r hr => ofP_sub r (bestR_sub hr)) hY hy
  exact kept_in g ofP_sub hK (bestR_sub hs)
theorem lik_top {Q : List Raw} (g : Good Q) {t : ByteArray} {X Y : List ByteArray} (hK : Kept (verL (ofP t Q)) (verL (ofP t Q)).length X) (hY : Kept (verL (bestR (ofP t Q))) (verL (bestR (ofP t Q))).length Y) : (likN Q t X X.length).1 = lastT Y := by
  by_cases h0 : X = []
  · rw [(kept_void g hK hY).1 h0, h0]; rfl
  · have hX := List.length_pos_iff.2 h0
    have hYp : 0 < Y.length := List.length_pos_iff.2 fun h => h0 ((kept_void g hK hY).2 h)
    obtain ⟨j, hj, _, hs, h1, h2⟩ := (likN_is (Q := Q) (t := t) (X := X) X.length (Nat.le_refl _)).p hX
    rw [hs, lastT_get hYp]
    obtain ⟨i, hi, ei⟩ := List.getElem_of_mem ((most_in g hK hY hj).1 fun k hk => h1 k hk hk)
    obtain ⟨k, hk, ek⟩ := List.getElem_of_mem (best_mem g hK hY (List.getElem_mem (l := Y) (n := Y.length - 1) (by omega)))
    have hm := (most_in g hK hY hk).2 (by rw [ek]; exact List.getElem_mem _)
    have hkj : ¬ j < k := fun h => by have a := h2 k hk hk h; have b := hm j hj; omega
    show X[j] = Y[Y.length - 1]
    by_cases hil : i = Y.length - 1
    · subst hil; exact ei.symm
    · have o1 := ris_lt hY.1 hi (show Y.length - 1 < Y.length by omega) (by omega)
      rw [ei, ← ek] at o1
      by_cases hkj2 : k = j
      · subst hkj2; exact ek
      · exact absurd (ris_lt hK.1 hk hj (by omega)) (ordV_irr o1)
theorem lik_low {Q : List Raw} (g : Good Q) {t : ByteArray} {X Y : List ByteArray} (hK : Kept (verL (ofP t Q)) (verL (ofP t Q)).length X) (hY : Kept (verL (bestR (ofP t Q))) (verL (bestR (ofP t Q))).length Y) : (likNL Q t X X.length).1 = headT Y := by
  by_cases h0 : X = []
  · rw [(kept_void g hK hY).1 h0, h0]; rfl
  · have hX := List.length_pos_iff.2 h0
    have hYp : 0 < Y.length := List.length_pos_iff.2 fun h => h0 ((kept_void g hK hY).2 h)
    obtain ⟨j, hj, _, hs, h1, h2⟩ := (likNL_is (Q := Q) (t := t) (X := X) X.length (Nat.le_refl _)).p hX
    rw [hs, headT_get hYp]
    obtain ⟨i, hi, ei⟩ := List.getElem_of_mem ((most_in g hK hY hj).1 fun k hk => h1 k hk hk)
    obtain ⟨k, hk, ek⟩ := List.getElem_of_mem (best_mem g hK hY (List.getElem_mem (l := Y) (n := 0) hYp))
    have hm := (most_in g hK hY hk).2 (by rw [ek]; exact List.getElem_mem _)
    have hkj : ¬ k < j := fun h => by have a := h2 k hk h; have b := hm j hj; omega
    show X[j] = Y[0]
    by_cases hil : i = 0
    · subst hil; exact ei.symm
    · have o1 := ris_lt hY.1 hYp hi (by omega)
      rw [ei, ← ek] at o1
      by_cases hkj2 : k = j
      · subst hkj2; exact ek
      · exact absurd (ris_lt hK.1 hj hk (by omega)) (ordV_irr o1)
theorem pkB_is {Q : List Raw} (g : Good Q) {t q now : ByteArray} {X Y : List ByteArray} (hK : Kept (verL (ofP t Q)) (verL (ofP t Q)).length X) (hY : Kept (verL (bestR (ofP t (fitR q now Q)))) (verL (bestR (ofP t (fitR q now Q)))).length Y) :
    pkB Q t q now X = if leastQ q then headT Y else lastT Y := by
  have g' : Good (fitR q now Q) := g.filter _
  unfold pkB
  rw [lik_fit g hK]
  have hK' := kept_fit (q := q) (now := now) g hK
  unfold likG
  rw [lik_top g' hK' hY, lik_low g' hK' hY]
theorem ver_some {Q : List Raw} {t : ByteArray} {Y : List ByteArray} (hY : Kept (verL (bestR (ofP t Q))) (verL (bestR (ofP t Q))).length Y) {y : ByteArray} (hy : y ∈ Y) : verErr y.data.toList = 0 := by
  have := (hY.2 y.data.toList).1 (List.mem_map.2 ⟨y, hy, rfl⟩)
  exact this.2
theorem ver_ne {y : ByteArray} (h : verErr y.data.toList = 0) : ¬ y = bE := fun e => by subst e; exact absurd h (by decide)
theorem pkB_none {Q : List Raw} (g : Good Q) {t q now : ByteArray} {X : List ByteArray} (hK : Kept (verL (ofP t Q)) (verL (ofP t Q)).length X) (hY : Kept (verL (bestR (ofP t (fitR q now Q)))) (verL (bestR (ofP t (fitR q now Q)))).length []) : pkB Q t q now X = bE := by
  rw [pkB_is g hK hY]
  split <;> rfl
theorem pkB_some {Q : List Raw} (g : Good Q) {t q now : ByteArray} {X Y : List ByteArray} (hK : Kept (verL (ofP t Q)) (verL (ofP t Q)).length X) (hY : Kept (verL (bestR (ofP t (fitR q now Q)))) (verL (bestR (ofP t (fitR q now Q)))).length Y) (h : 0 < Y.length) : ¬ pkB Q t q now X = bE := by
  rw [pkB_is g hK hY]
  split
  · rw [headT_get h]; exact ver_ne (ver_some hY (List.getElem_mem _))
  · rw [lastT_get h]; exact ver_ne (ver_some hY (List.getElem_mem _))
theorem least_beg (q : ByteArray) : begB q sGt = leastQ q := by
  have key : ∀ l : List UInt8, (Lib.hasPrefix l [62] = true → Lib.hasPrefix l [60, 61] = false ∧ Lib.hasPrefix l [60] = false) ∧ (Lib.hasPrefix l [62] = false → Lib.hasPrefix l [62, 61] = false) := fun l => by
    unfold Lib.hasPrefix
    cases l with
    | nil => exact ⟨fun h => absurd h (by decide), fun _ => rfl⟩
    | cons b r =>
      simp only [List.isPrefixOf, Bool.and_true]
      constructor
      · intro h
        have : (62 : UInt8) = b := by simpa using h
        subst this
        exact ⟨rfl, rfl⟩
      · intro h
        rw [h]; rfl
  obtain ⟨k1, k2⟩ := key q.data.toList
  unfold leastQ sgn
  unfold begB
  have e1 : sLe.data.toList = [60, 61] := rfl
  have e2 : sGe.data.toList = [62, 61] := rfl
  have e3 : sLt.data.toList = [60] := rfl
  have e4 : sGt.data.toList = [62] := rfl
  rw [e1, e2, e3, e4]
  cases h : Lib.hasPrefix q.data.toList [62]
  · rw [k2 h]
    cases Lib.hasPrefix q.data.toList [60, 61] <;> cases Lib.hasPrefix q.data.toList [60] <;> simp [sg_ne1, sg_ne3, sg_ne5.symm, sg_ne8, sg_ne10.symm, sg_ne7.symm]
  · rw [(k1 h).1, (k1 h).2]
    cases Lib.hasPrefix q.data.toList [62, 61] <;> simp
theorem sgn_word {q : ByteArray} (h : isWd q = true) : sgn q = (bE, q) := by
  unfold isWd at h
  simp only [Bool.or_eq_true, decide_eq_true_eq] at h
  rcases h with ((h | h) | h) | h <;> subst h <;> rfl
theorem cut_more (a b : List UInt8) : (cutAt 46 a).length ≤ (cutAt 46 (a ++ b)).length := by
  induction a with
  | nil => exact List.length_pos_iff.2 (cutAt_ne 46 _)
  | cons c r ih =>
    rw [List.cons_append]
    unfold cutAt
    split
    · simp only [List.length_cons]; omega
    · rw [ahead_len _ _ (cutAt_ne 46 _), ahead_len _ _ (cutAt_ne 46 _)]; exact ih
theorem ver_core {l : List UInt8} (h : verErr l = 0) : marked l = true ∧ (coreOf l).length = 3 ∧ numsErr (coreOf l) = 0 := by
  unfold verErr at h
  by_cases hc : marked l = false ∨ (coreOf l).length ≠ 3
  · rw [if_pos hc] at h; omega
  rw [if_neg hc] at h
  have hm : marked l = true := by
    cases e : marked l
    · exact absurd (Or.inl e) hc
    · rfl
  have h3 : (coreOf l).length = 3 := by
    rcases Nat.decEq (coreOf l).length 3 with h | h
    · exact absurd (Or.inr h) hc
    · exact h
  refine ⟨hm, h3, ?_⟩
  cases e : hasPre l
  · rw [e] at h; exact h
  · rw [e] at h
    have h' : worse (numsErr (coreOf l)) (pre (preOf l)) = 0 := h
    unfold worse at h'
    by_cases q : numsErr (coreOf l) = 1 ∨ pre (preOf l) = 0
    · rw [if_pos q] at h'; exact h'
    · rw [if_neg q] at h'; exact absurd (Or.inr h') q
theorem ver_nohead {l : List UInt8} (h : verErr l = 0) : headOk l = false := by
  obtain ⟨_, h3, _⟩ := ver_core h
  have hle : (coreOf l).length ≤ (headOf l).length := by
    unfold coreOf headOf
    cases e : (one 45 (restOf l)).2.2
    · rw [one_none e]; exact Nat.le_refl _
    · conv => rhs; rw [one_back e]
      exact cut_more _ _
  unfold headOk
  rw [decide_eq_false (show ¬ (headOf l).length ≤ 2 by omega), Bool.and_false, Bool.and_false]
theorem begin_suit {q v : ByteArray} (hs : (sgn q).1 = bE) (hv : verErr v.data.toList = 0) : beginB v q = suitB q v := by
  by_cases h : verErr q.data.toList = 0
  · rw [suit_ver hs h]
    unfold beginB
    rw [decide_eq_true hv, ver_nohead h, Bool.true_and, Bool.false_and, Bool.or_false]
    exact decide_eq_decide.2 ⟨fun e => e.symm, fun e => e.symm⟩
  · rw [suit_beg hs h]
theorem begin_patch {now v hd : ByteArray} (hn : verErr now.data.toList = 0) (hv : verErr v.data.toList = 0)
    (hh : hd.data.toList = 118 :: (Lib.itoa (nAt now.data.toList 0) ++ 46 :: Lib.itoa (nAt now.data.toList 1))) :
    beginB v hd = (decide (nAt v.data.toList 0 = nAt now.data.toList 0) && decide (nAt v.data.toList 1 = nAt now.data.toList 1)) ∧ (0 ≤ nAt now.data.toList 0 ∧ nAt now.data.toList 0 ≤ 999999) ∧ (0 ≤ nAt now.data.toList 1 ∧ nAt now.data.toList 1 ≤ 999999) := by
  obtain ⟨_, h3, hne⟩ := ver_core hn
  generalize now.data.toList = l at *
  obtain ⟨p0, p1, p2, hco⟩ : ∃ p0 p1 p2, coreOf l = [p0, p1, p2] := by
    match e : coreOf l, h3 with
    | [a, b, c], _ => exact ⟨a, b, c, rfl⟩
  have hz := ncode0 hne
  rw [hco] at hz
  have n0 : nAt l 0 = (num p0).1 := by simp [nAt, numsOf, hco]
  have n1 : nAt l 1 = (num p1).1 := by simp [nAt, numsOf, hco]
  have z0 := hz p0 (by simp)
  have z1 := hz p1 (by simp)
  obtain ⟨i0, l0, u0⟩ := itoa_num p0 z0
  obtain ⟨i1, l1, u1⟩ := itoa_num p1 z1
  rw [n0, n1] at hh ⊢
  have hhd : headOf hd.data.toList = [p0, p1] := by
    unfold headOf
    rw [hh]
    show cutAt 46 (Lib.itoa (num p0).1 ++ 46 :: Lib.itoa (num p1).1) = _
    rw [cut_step 46 _ _ (itoa_no _ l0 46 (by decide)), cut_last 46 _ (itoa_no _ l1 46 (by decide)), i0, i1]
  have hmk : marked hd.data.toList = true := by rw [hh]; rfl
  have hnum : numsErr [p0, p1] = 0 := by
    show worse (worse 0 (num p0).2) (num p1).2 = 0
    rw [z0, z1]; rfl
  have hok : headOk hd.data.toList = true := by
    unfold headOk
    rw [hmk, hhd, hnum]; rfl
  have hne2 : ¬ hd = v := fun e => by
    have := ver_nohead hv
    rw [← e, hok] at this; cases this
  refine ⟨?_, ⟨l0, u0⟩, l1, u1⟩
  unfold beginB
  rw [decide_eq_true hv, decide_eq_false hne2, hok, hhd, Bool.true_and, Bool.false_or, Bool.true_and]
  show ([(num p0).1, (num p1).1] == [nAt v.data.toList 0, nAt v.data.toList 1]) = _
  rw [Bool.eq_iff_iff]
  simp only [beq_iff_eq, List.cons.injEq, and_true, Bool.and_eq_true, decide_eq_true_eq]
  exact ⟨fun h => ⟨h.1.symm, h.2.symm⟩, fun h => ⟨h.1.symm, h.2.symm⟩⟩
end Ve
end Go.Proofs.YtnkgjddkdikikaaGreatDoor
