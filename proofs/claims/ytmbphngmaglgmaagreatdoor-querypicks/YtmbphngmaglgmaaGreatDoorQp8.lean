/-
  What small and picked of the statements of chapters 10 to 14 answer: the closed fact holds, where query.Pick answers as it is asked to.
-/
import Derived.Test.YtmbphngmaglgmaaGreatDoorQy5
import Derived.Test.YtmbphngmaglgmaaGreatDoorQy7
import Derived.Test.YtmbphngmaglgmaaGreatDoorQy4
import Derived.Test.YtmbphngmaglgmaaGreatDoorQy3
import Derived.Test.YtmbphngmaglgmaaGreatDoorRefF
import Derived.Test.YtmbphngmaglgmaaGreatDoorQy1
import Derived.Deep.SlicePairs
import Derived.Lib.SmallJoins
import Derived.SliceStrings
import Derived.ProofKit
import Derived.LaidMore
import Derived.Lay
import Derived.Stop.Joined
import Derived.HandedShaped
import Derived.LaidLaws
import Derived.Below
import Derived.Test.YtmbphngmaglgmaaGreatDoorRows
import Derived.Test.YtmbphngmaglgmaaGreatDoorCode
import Derived.Test.YtmbphngmaglgmaaGreatDoorVerG
import Derived.LaidHandle
import Derived.Stop.LaidTwo
import Derived.Shelf.Vars
import Derived.Carry
namespace Go.Proofs.YtmbphngmaglgmaaGreatDoor
open Go.RowKit Go.Maps
namespace Ve

def qa0 : Bm := (⟨#[97]⟩, ⟨#[118, 49, 46, 48, 46, 48]⟩)
def qa1 : Bm := (⟨#[97]⟩, ⟨#[118, 49, 46, 49, 46, 48]⟩)
def qb0 : Bm := (⟨#[98]⟩, ⟨#[118, 48, 46, 49, 46, 48]⟩)
def qb1 : Bm := (⟨#[98]⟩, ⟨#[118, 48, 46, 50, 46, 48, 45, 114, 99]⟩)
def s3L : List Ent := [(qa0, [], [⟨#[46]⟩, ⟨#[120]⟩], false), (qa1, [qb0], [⟨#[46]⟩], false), (qb0, [], [], false), (qb1, [], [], false)]
def s3Q (g : Nat) : List Raw := [(qa0, .slice none 0 0, .slice (some ⟨g, 0, none⟩) 2 2, false), (qa1, .slice (some ⟨g + 1, 0, none⟩) 1 1, .slice (some ⟨g + 2, 0, none⟩) 1 1, false), (qb0, .slice none 0 0, .slice none 0 0, false), (qb1, .slice none 0 0, .slice none 0 0, false)]
theorem s3_e0 : entE s3L 0 = 0 := by
  show entW none _ = 0
  rw [entW_none (by kernel_rfl), entR_pack (by decide) (by kernel_rfl)]
  exact pk_rise (by decide) (by kernel_rfl) (fun j hj => by
    have : j = 0 := by simp [bl] at hj; omega
    subst this; exact of_decide_eq_true (by kernel_rfl))
theorem s3_e1 : entE s3L 1 = 0 := by
  show entW (some _) _ = 0
  rw [entW_some (by kernel_rfl) (by kernel_rfl), entR_pack (by decide) (by kernel_rfl)]
  exact pk_rise (by decide) (by kernel_rfl) (fun j hj => by simp [bl] at hj)
theorem s3_e2 : entE s3L 2 = 0 := by
  show entW (some _) _ = 0
  rw [entW_some (by kernel_rfl) (by kernel_rfl), entR_pack (by decide) (by kernel_rfl)]
  exact pk_rise (by decide) (by kernel_rfl) (fun j hj => by simp [bl] at hj)
theorem s3_e3 : entE s3L 3 = 0 := by
  show entW (some _) _ = 0
  rw [entW_some (by kernel_rfl) (by kernel_rfl), entR_pack (by decide) (by kernel_rfl)]
  exact pk_rise (by decide) (by kernel_rfl) (fun j hj => by simp [bl] at hj)
theorem s3_chk (g : Nat) : chk (s3Q g) s3L = (0, none) := by
  have h2 : ∀ j, j < 4 → entE s3L j = 0 := fun j hj => by
    rcases (by omega : j = 0 ∨ j = 1 ∨ j = 2 ∨ j = 3) with rfl | rfl | rfl | rfl
    · exact s3_e0
    · exact s3_e1
    · exact s3_e2
    · exact s3_e3
  have h : fstE (entE s3L) s3L.length = none := fstE_none h2
  rw [chk_reqs (by decide) h]
  exact Prod.ext (show codeE (reqE2 (s3Q g) s3L) s3L.length = 0 by kernel_rfl) (show fstE (reqE2 (s3Q g) s3L) s3L.length = none by kernel_rfl)
theorem s3_sh : ∀ e, e ∈ s3L → ShE e := fun e he => by
  have : e = s3L[0] ∨ e = s3L[1] ∨ e = s3L[2] ∨ e = s3L[3] := by simpa [s3L] using he
  rcases this with rfl | rfl | rfl | rfl
  · exact ⟨by decide, by decide, by decide, fun m hm => (by cases hm), by decide, fun x hx => (by
      have : x = ⟨#[46]⟩ ∨ x = ⟨#[120]⟩ := by simpa [s3L] using hx
      rcases this with rfl | rfl <;> decide)⟩
  · exact ⟨by decide, by decide, by decide, fun m hm => (by have : m = qb0 := List.mem_singleton.1 hm
                                                            subst this; exact ⟨by decide, by decide⟩), by decide, fun x hx => (by have : x = ⟨#[46]⟩ := List.mem_singleton.1 hx
                                                                                                                                  subst this; decide)⟩
  · exact ⟨by decide, by decide, by decide, fun m hm => (by cases hm), by decide, fun x hx => (by cases hx)⟩
  · exact ⟨by decide, by decide, by decide, fun m hm => (by cases hm), by decide, fun x hx => (by cases hx)⟩
theorem s3_short (g : Nat) : shortQ (s3Q g) := fun r hr => by
  rcases List.mem_cons.1 hr with rfl | hr
  · exact ⟨show qa0.1.size ≤ 80 by decide, show qa0.2.size ≤ 80 by decide⟩
  rcases List.mem_cons.1 hr with rfl | hr
  · exact ⟨show qa1.1.size ≤ 80 by decide, show qa1.2.size ≤ 80 by decide⟩
  rcases List.mem_cons.1 hr with rfl | hr
  · exact ⟨show qb0.1.size ≤ 80 by decide, show qb0.2.size ≤ 80 by decide⟩
  rw [List.mem_singleton.1 hr]
  exact ⟨show qb1.1.size ≤ 80 by decide, show qb1.2.size ≤ 80 by decide⟩
theorem qa0_v : verErr qa0.2.data.toList = 0 := by kernel_rfl
theorem qa1_v : verErr qa1.2.data.toList = 0 := by kernel_rfl
theorem qb0_v : verErr qb0.2.data.toList = 0 := by kernel_rfl
theorem qb1_v : verErr qb1.2.data.toList = 0 := by kernel_rfl
theorem s3_kept {L X : List ByteArray} (hL : L = X) (hr : rises (bl X)) (hv : ∀ x, x ∈ X → verErr x.data.toList = 0) : Kept L L.length X := by
  subst hL
  refine ⟨hr, fun t => ?_⟩
  rw [List.take_length]
  constructor
  · intro ht
    obtain ⟨x, hx, rfl⟩ := List.mem_map.1 ht
    exact ⟨ht, hv x hx⟩
  · intro h; exact h.1
theorem s3_keptA (g : Nat) : Kept (verL (ofP qa0.1 (s3Q g))) (verL (ofP qa0.1 (s3Q g))).length [qa0.2, qa1.2] := by
  refine s3_kept (by kernel_rfl) (List.pairwise_cons.2 ⟨fun t ht => ?_, List.pairwise_singleton _ _⟩) fun x hx => ?_
  · rw [List.mem_singleton.1 ht]; exact of_decide_eq_true (by kernel_rfl)
  · have : x = qa0.2 ∨ x = qa1.2 := by simpa using hx
    rcases this with h | h
    · rw [h]; exact qa0_v
    · rw [h]; exact qa1_v
theorem s3_keptB (g : Nat) : Kept (verL (ofP qb0.1 (s3Q g))) (verL (ofP qb0.1 (s3Q g))).length [qb0.2, qb1.2] := by
  refine s3_kept (by kernel_rfl) (List.pairwise_cons.2 ⟨fun t ht => ?_, List.pairwise_singleton _ _⟩) fun x hx => ?_
  · rw [List.mem_singleton.1 ht]; exact of_decide_eq_true (by kernel_rfl)
  · have : x = qb0.2 ∨ x = qb1.2 := by simpa using hx
    rcases this with h | h
    · rw [h]; exact qb0_v
    · rw [h]; exact qb1_v
def bV1 : ByteArray := ⟨#[118, 49]⟩
def bGe : ByteArray := ⟨#[62, 61, 118, 48, 46, 49, 46, 48]⟩
theorem bV1_no : ¬ bV1 = bNone := fun e => absurd (congrArg (fun m : ByteArray => m.data) e) (by decide)
theorem bGe_no : ¬ bGe = bNone := fun e => absurd (congrArg (fun m : ByteArray => m.data) e) (by decide)
theorem s3_pA (g : Nat) : pkB (s3Q g) qa0.1 bV1 bE [qa0.2, qa1.2] = qa1.2 := by kernel_rfl
theorem s3_pB (g : Nat) : pkB (s3Q g) qb0.1 bGe bE [qb0.2, qb1.2] = qb0.2 := by kernel_rfl
theorem s3_q1 : qErr bV1 = 0 := by kernel_rfl
theorem s3_q2 : qErr bGe = 0 := by kernel_rfl
theorem s3_n1 : ¬ qa1.2 = bE := fun e => absurd (congrArg (fun m : ByteArray => m.data) e) (by decide)
theorem s3_n2 : ¬ qb0.2 = bE := fun e => absurd (congrArg (fun m : ByteArray => m.data) e) (by decide)
theorem s3_u1 : ¬ bV1 = bUpgrade := fun e => absurd (congrArg (fun m : ByteArray => m.data) e) (by decide)
theorem s3_u2 : ¬ bGe = bUpgrade := fun e => absurd (congrArg (fun m : ByteArray => m.data) e) (by decide)
theorem s3_A (g : Nat) {X : List ByteArray} (hX : Kept (verL (ofP qa0.1 (s3Q g))) (verL (ofP qa0.1 (s3Q g))).length X) : pkF (s3Q g) s3L qa0.1 bV1 bE X = (0, none) ∧ pkV (s3Q g) s3L qa0.1 bV1 bE X = qa1.2 := by
  have e := kept_one hX (s3_keptA g)
  subst e
  have h1 : ¬ qErr bV1 ≠ 0 := by rw [s3_q1]; simp
  have h2 : ¬ (chk (s3Q g) s3L).1 ≠ 0 := by rw [s3_chk]; simp
  rw [pkF_m h1 h2 bV1_no, pkV_m h1 h2 bV1_no, s3_pA, if_neg s3_n1, if_neg s3_n1, if_neg s3_u1]
  exact ⟨rfl, rfl⟩
theorem s3_B (g : Nat) {X : List ByteArray} (hX : Kept (verL (ofP qb0.1 (s3Q g))) (verL (ofP qb0.1 (s3Q g))).length X) : pkF (s3Q g) s3L qb0.1 bGe bE X = (0, none) ∧ pkV (s3Q g) s3L qb0.1 bGe bE X = qb0.2 := by
  have e := kept_one hX (s3_keptB g)
  subst e
  have h1 : ¬ qErr bGe ≠ 0 := by rw [s3_q2]; simp
  have h2 : ¬ (chk (s3Q g) s3L).1 ≠ 0 := by rw [s3_chk]; simp
  rw [pkF_m h1 h2 bGe_no, pkV_m h1 h2 bGe_no, s3_pB, if_neg s3_n2, if_neg s3_n2, if_neg s3_u2]
  exact ⟨rfl, rfl⟩
theorem s3_ixs {W : World} {g q : Nat} (hb : W.heap[q]? = some (.cells #[.string ⟨#[97]⟩, .string ⟨#[118, 49, 46, 48, 46, 48]⟩, .slice none 0 0, .slice (some ⟨g, 0, none⟩) 2 2, .bool false, .string ⟨#[97]⟩, .string ⟨#[118, 49, 46, 49, 46, 48]⟩, .slice (some ⟨g + 1, 0, none⟩) 1 1, .slice (some ⟨g + 2, 0, none⟩) 1 1, .bool false, .string ⟨#[98]⟩, .string ⟨#[118, 48, 46, 49, 46, 48]⟩, .slice none 0 0, .slice none 0 0, .bool false, .string ⟨#[98]⟩, .string ⟨#[118, 48, 46, 50, 46, 48, 45, 114, 99]⟩, .slice none 0 0, .slice none 0 0, .bool false] 56 (0, 0)))
    (hp : W.heap[g]? = some (.cells #[.string ⟨#[46]⟩, .string ⟨#[120]⟩] 9 (0, 0))) (hg : W.heap[g + 1]? = some (.cells #[.string ⟨#[98]⟩, .string ⟨#[118, 48, 46, 49, 46, 48]⟩] 53 (0, 0))) (hd : W.heap[g + 2]? = some (.cells #[.string ⟨#[46]⟩] 9 (0, 0))) :
    Ixs W (.slice (some ⟨q, 0, none⟩) 4 4) (s3Q g) s3L := by
  have msn : MsAt W (.slice none 0 0) [] := ⟨none, 0, rfl, Nat.le_refl _, fun h => absurd rfl h⟩
  have txn : TxAt W (.slice none 0 0) [] := ⟨none, 0, rfl, Nat.le_refl _, fun h => absurd rfl h⟩
  have msb : MsAt W (.slice (some ⟨g + 1, 0, none⟩) 1 1) [qb0] := ⟨some ⟨g + 1, 0, none⟩, 1, rfl, Nat.le_refl _, fun _ => ⟨g + 1, 0, rfl, fun j hj => by
    have : j = 0 := by simp at hj; exact hj
    subst this
    refine ⟨?_, ?_⟩ <;> (rw [Lib.cell_of_heap hg]; rfl)⟩⟩
  have tx1 : TxAt W (.slice (some ⟨g, 0, none⟩) 2 2) [⟨#[46]⟩, ⟨#[120]⟩] := ⟨some ⟨g, 0, none⟩, 2, rfl, Nat.le_refl _, fun _ => ⟨g, 0, rfl, fun j hj => by
    have hj2 : j < 2 := hj
    rcases (by omega : j = 0 ∨ j = 1) with rfl | rfl
    · rw [Lib.cell_of_heap hp]; rfl
    · rw [Lib.cell_of_heap hp]; rfl⟩⟩
  have tx2 : TxAt W (.slice (some ⟨g + 2, 0, none⟩) 1 1) [⟨#[46]⟩] := ⟨some ⟨g + 2, 0, none⟩, 1, rfl, Nat.le_refl _, fun _ => ⟨g + 2, 0, rfl, fun j hj => by
    have : j = 0 := by simp at hj; exact hj
    subst this
    rw [Lib.cell_of_heap hd]; rfl⟩⟩
  refine ⟨⟨some ⟨q, 0, none⟩, 4, rfl, Nat.le_refl _, fun r hr => ?_, fun _ => ⟨q, 0, rfl, fun j hj => ?_⟩⟩, rfl, fun j h1 h2 => ?_⟩
  · rcases List.mem_cons.1 hr with rfl | hr
    · exact ⟨⟨none, 0, 0, rfl⟩, _, _, _, rfl⟩
    rcases List.mem_cons.1 hr with rfl | hr
    · exact ⟨⟨_, _, _, rfl⟩, _, _, _, rfl⟩
    rcases List.mem_cons.1 hr with rfl | hr
    · exact ⟨⟨none, 0, 0, rfl⟩, none, 0, 0, rfl⟩
    rw [List.mem_singleton.1 hr]
    exact ⟨⟨none, 0, 0, rfl⟩, none, 0, 0, rfl⟩
  · have hj2 : j < 4 := hj
    rcases (by omega : j = 0 ∨ j = 1 ∨ j = 2 ∨ j = 3) with rfl | rfl | rfl | rfl
    · refine ⟨?_, ?_, ?_, ?_, ?_⟩ <;> (rw [Lib.cell_of_heap hb]; rfl)
    · refine ⟨?_, ?_, ?_, ?_, ?_⟩ <;> (rw [Lib.cell_of_heap hb]; rfl)
    · refine ⟨?_, ?_, ?_, ?_, ?_⟩ <;> (rw [Lib.cell_of_heap hb]; rfl)
    · refine ⟨?_, ?_, ?_, ?_, ?_⟩ <;> (rw [Lib.cell_of_heap hb]; rfl)
  · have hj2 : j < 4 := h1
    rcases (by omega : j = 0 ∨ j = 1 ∨ j = 2 ∨ j = 3) with rfl | rfl | rfl | rfl
    · exact ⟨rfl, msn, tx1, rfl⟩
    · exact ⟨rfl, msb, tx2, rfl⟩
    · exact ⟨rfl, msn, txn, rfl⟩
    · exact ⟨rfl, msn, txn, rfl⟩
set_option maxHeartbeats 2000000 in
/-- pewholderlaw3.small. -/
theorem small3_any (w : World) : Calls Tryz.prog 22 #[] w fun e w' => ∃ g q, e = .returned (.slice (some ⟨q, 0, none⟩) 4 4) ∧ Ixs w' (.slice (some ⟨q, 0, none⟩) 4 4) (s3Q g) s3L ∧ Below w.heap.size w w' := by
  have a1 := heap_new w (.cells #[.string ⟨#[46]⟩, .string ⟨#[120]⟩] 9)
  have z1 : (w.alloc (.cells #[.string ⟨#[46]⟩, .string ⟨#[120]⟩] 9)).heap.size = w.heap.size + 1 := by simp
  have b1 := (Below.refl w.heap.size w).alloc (Nat.le_refl _) (.cells #[.string ⟨#[46]⟩, .string ⟨#[120]⟩] 9)
  obtain ⟨w1, hw1⟩ : ∃ w1, w.alloc (.cells #[.string ⟨#[46]⟩, .string ⟨#[120]⟩] 9) = w1 := ⟨_, rfl⟩
  rw [hw1] at a1 z1 b1
  have a2 := heap_new w1 (.cells #[.string ⟨#[98]⟩, .string ⟨#[118, 48, 46, 49, 46, 48]⟩] 53)
  have c1 := heap_old w1 (.cells #[.string ⟨#[98]⟩, .string ⟨#[118, 48, 46, 49, 46, 48]⟩] 53) a1
  have b2 := b1.alloc b1.size (.cells #[.string ⟨#[98]⟩, .string ⟨#[118, 48, 46, 49, 46, 48]⟩] 53)
  have z2 : (w1.alloc (.cells #[.string ⟨#[98]⟩, .string ⟨#[118, 48, 46, 49, 46, 48]⟩] 53)).heap.size = w.heap.size + 2 := by simp [z1]
  rw [z1] at a2
  obtain ⟨w2, hw2⟩ : ∃ w2, w1.alloc (.cells #[.string ⟨#[98]⟩, .string ⟨#[118, 48, 46, 49, 46, 48]⟩] 53) = w2 := ⟨_, rfl⟩
  rw [hw2] at a2 c1 b2 z2
  have a3 := heap_new w2 (.cells #[.string ⟨#[46]⟩] 9)
  have c2 := heap_old w2 (.cells #[.string ⟨#[46]⟩] 9) c1
  have d2 := heap_old w2 (.cells #[.string ⟨#[46]⟩] 9) a2
  have b3 := b2.alloc b2.size (.cells #[.string ⟨#[46]⟩] 9)
  have z3 : (w2.alloc (.cells #[.string ⟨#[46]⟩] 9)).heap.size = w.heap.size + 3 := by simp [z2]
  rw [z2] at a3
  obtain ⟨w3, hw3⟩ : ∃ w3, w2.alloc (.cells #[.string ⟨#[46]⟩] 9) = w3 := ⟨_, rfl⟩
  rw [hw3] at a3 c2 d2 b3 z3
  have a4 := heap_new w3 (.cells #[.string ⟨#[97]⟩, .string ⟨#[118, 49, 46, 48, 46, 48]⟩, .slice none 0 0, .slice (some ⟨w.heap.size, 0, none⟩) 2 2, .bool false, .string ⟨#[97]⟩, .string ⟨#[118, 49, 46, 49, 46, 48]⟩, .slice (some ⟨w.heap.size + 1, 0, none⟩) 1 1, .slice (some ⟨w.heap.size + 2, 0, none⟩) 1 1, .bool false, .string ⟨#[98]⟩, .string ⟨#[118, 48, 46, 49, 46, 48]⟩, .slice none 0 0, .slice none 0 0, .bool false, .string ⟨#[98]⟩, .string ⟨#[118, 48, 46, 50, 46, 48, 45, 114, 99]⟩, .slice none 0 0, .slice none 0 0, .bool false] 56)
  have c3 := heap_old w3 (.cells #[.string ⟨#[97]⟩, .string ⟨#[118, 49, 46, 48, 46, 48]⟩, .slice none 0 0, .slice (some ⟨w.heap.size, 0, none⟩) 2 2, .bool false, .string ⟨#[97]⟩, .string ⟨#[118, 49, 46, 49, 46, 48]⟩, .slice (some ⟨w.heap.size + 1, 0, none⟩) 1 1, .slice (some ⟨w.heap.size + 2, 0, none⟩) 1 1, .bool false, .string ⟨#[98]⟩, .string ⟨#[118, 48, 46, 49, 46, 48]⟩, .slice none 0 0, .slice none 0 0, .bool false, .string ⟨#[98]⟩, .string ⟨#[118, 48, 46, 50, 46, 48, 45, 114, 99]⟩, .slice none 0 0, .slice none 0 0, .bool false] 56) c2
  have d3 := heap_old w3 (.cells #[.string ⟨#[97]⟩, .string ⟨#[118, 49, 46, 48, 46, 48]⟩, .slice none 0 0, .slice (some ⟨w.heap.size, 0, none⟩) 2 2, .bool false, .string ⟨#[97]⟩, .string ⟨#[118, 49, 46, 49, 46, 48]⟩, .slice (some ⟨w.heap.size + 1, 0, none⟩) 1 1, .slice (some ⟨w.heap.size + 2, 0, none⟩) 1 1, .bool false, .string ⟨#[98]⟩, .string ⟨#[118, 48, 46, 49, 46, 48]⟩, .slice none 0 0, .slice none 0 0, .bool false, .string ⟨#[98]⟩, .string ⟨#[118, 48, 46, 50, 46, 48, 45, 114, 99]⟩, .slice none 0 0, .slice none 0 0, .bool false] 56) d2
  have e3 := heap_old w3 (.cells #[.string ⟨#[97]⟩, .string ⟨#[118, 49, 46, 48, 46, 48]⟩, .slice none 0 0, .slice (some ⟨w.heap.size, 0, none⟩) 2 2, .bool false, .string ⟨#[97]⟩, .string ⟨#[118, 49, 46, 49, 46, 48]⟩, .slice (some ⟨w.heap.size + 1, 0, none⟩) 1 1, .slice (some ⟨w.heap.size + 2, 0, none⟩) 1 1, .bool false, .string ⟨#[98]⟩, .string ⟨#[118, 48, 46, 49, 46, 48]⟩, .slice none 0 0, .slice none 0 0, .bool false, .string ⟨#[98]⟩, .string ⟨#[118, 48, 46, 50, 46, 48, 45, 114, 99]⟩, .slice none 0 0, .slice none 0 0, .bool false] 56) a3
  have b4 := b3.alloc b3.size (.cells #[.string ⟨#[97]⟩, .string ⟨#[118, 49, 46, 48, 46, 48]⟩, .slice none 0 0, .slice (some ⟨w.heap.size, 0, none⟩) 2 2, .bool false, .string ⟨#[97]⟩, .string ⟨#[118, 49, 46, 49, 46, 48]⟩, .slice (some ⟨w.heap.size + 1, 0, none⟩) 1 1, .slice (some ⟨w.heap.size + 2, 0, none⟩) 1 1, .bool false, .string ⟨#[98]⟩, .string ⟨#[118, 48, 46, 49, 46, 48]⟩, .slice none 0 0, .slice none 0 0, .bool false, .string ⟨#[98]⟩, .string ⟨#[118, 48, 46, 50, 46, 48, 45, 114, 99]⟩, .slice none 0 0, .slice none 0 0, .bool false] 56)
  rw [z3] at a4
  have HX := hid (s3_ixs a4 c3 d3 e3)
  have HB := hid b4
  subst hw3 hw2 hw1
  clear a1 a2 a3 a4 b1 b2 b3 b4 c1 c2 c3 d2 d3 e3
  go_enter Tryz.func22, Tryz.ntmps22
  go_wp2_with fail
  go_ret
  exact ⟨w.heap.size, w.heap.size + 3, rfl, HX.out, HB.out⟩
set_option maxRecDepth 100000 in
set_option maxHeartbeats 4000000 in
/-- pewholderlaw3.picked. -/
theorem picked_any {T : World → Prop} (PC : PickC T) (KT : KeepT T) (A : Nat → Addr) (m : Int) (w : World) (S : Te w A m) (ht : T w) : Calls Tryz.prog 6 #[] w fun e w' => e = .returned (.bool true) ∧ Below w.heap.size w w' := by
  have HSM := hid small3_any
  have HS := hid (fun W (h : Below w.heap.size w W) => S.below h)
  have HPC := hid PC
  have HT := hid (fun W (h : Below w.heap.size w W) => KT w W ht h)
  clear S PC KT ht
  go_enter Tryz.func6, Tryz.ntmps6
  go_wp2_with fail
  refine (HSM.out w).mono ?_
  rintro e w1 ⟨g, q, rfl, hix, hb⟩
  have HB1 := hid hb
  have HP1 := hid (HPC.out (s3Q g) s3L ⟨#[97]⟩ ⟨#[118, 49]⟩ ⟨#[]⟩ _ A m w1 (by decide) s3_sh (s3_short g) (by decide) (by decide) (by decide) (HS.out _ hb) (HT.out _ hb) hix)
  clear hix hb
  go_wp2_with fail
  refine HP1.out.mono ?_
  rintro e w2 ⟨X, x, hK, rfl, he, hb⟩
  obtain ⟨e1, e2⟩ := s3_A g (hK ⟨s3_q1, by rw [s3_chk], bV1_no⟩)
  have e1' : pkF (s3Q g) s3L ⟨#[97]⟩ ⟨#[118, 49]⟩ ⟨#[]⟩ X = (0, none) := e1
  have e2' : pkV (s3Q g) s3L ⟨#[97]⟩ ⟨#[118, 49]⟩ ⟨#[]⟩ X = ⟨#[118, 49, 46, 49, 46, 48]⟩ := e2
  rw [e1'] at he
  have he : x = .nilIface := he
  subst he
  rw [e2']
  have HB2 := hid (HB1.out.trans (hb.mono HB1.out.size))
  clear hK hb e1 e2 e1' e2' HP1
  go_wp2_with fail
  refine (HSM.out w2).mono ?_
  rintro e w3 ⟨g3, q3, rfl, hix, hb⟩
  have HB3 := hid (HB2.out.trans (hb.mono HB2.out.size))
  have HP3 := hid (HPC.out (s3Q g3) s3L ⟨#[98]⟩ ⟨#[62, 61, 118, 48, 46, 49, 46, 48]⟩ ⟨#[]⟩ _ A m w3 (by decide) s3_sh (s3_short g3) (by decide) (by decide) (by decide) (HS.out _ HB3.out) (HT.out _ HB3.out) hix)
  clear hix hb
  go_wp2_with fail
  refine HP3.out.mono ?_
  rintro e w4 ⟨X, x, hK, rfl, he, hb⟩
  obtain ⟨e1, e2⟩ := s3_B g3 (hK ⟨s3_q2, by rw [s3_chk], bGe_no⟩)
  have e1' : pkF (s3Q g3) s3L ⟨#[98]⟩ ⟨#[62, 61, 118, 48, 46, 49, 46, 48]⟩ ⟨#[]⟩ X = (0, none) := e1
  have e2' : pkV (s3Q g3) s3L ⟨#[98]⟩ ⟨#[62, 61, 118, 48, 46, 49, 46, 48]⟩ ⟨#[]⟩ X = ⟨#[118, 48, 46, 49, 46, 48]⟩ := e2
  rw [e1'] at he
  have he : x = .nilIface := he
  subst he
  rw [e2']
  have HB4 := hid (HB3.out.trans (hb.mono HB3.out.size))
  clear hK hb e1 e2 e1' e2' HP3
  go_wp2_with fail
  go_ret
  exact ⟨rfl, HB4.out⟩
end Ve
end Go.Proofs.YtmbphngmaglgmaaGreatDoor

/-
  pewholderlaw3.QueryPicks walked: what Check and Pick of package query say is what the document says, where they answer as they are asked to.
-/
namespace Go.Proofs.YtmbphngmaglgmaaGreatDoor
open Go.RowKit Go.Maps
namespace Ve

theorem pkF_le (Q : List Raw) (L : List Ent) (t q now : ByteArray) (X : List ByteArray) : (pkF Q L t q now X).1 ≤ 10 := by
  unfold pkF
  repeat' split
  · exact qErr_le _
  · exact chk_le _ _
  all_goals decide
theorem okI_short {w : World} {v : Value} {Q : List Raw} {L : List Ent} (I : Ixs w v Q L) (h : okI L = true) : shortQ Q := fun r hr => by
  obtain ⟨j, hj, rfl⟩ := List.getElem_of_mem hr
  have hl : j < L.length := by rw [← I.ln]; exact hj
  have hm := (I.ok j hj hl).m
  have := (okI_iff h).2 L[j] (List.getElem_mem hl)
  rw [hm]
  exact ⟨by have := this.1; omega, by have := this.2.1; omega⟩
set_option maxRecDepth 100000 in
set_option maxHeartbeats 4000000 in
theorem qp_main {T : World → Prop} (CC : CheckC) (PC : PickC T) (KT : KeepT T) (Q0 : List Raw) (L : List Ent) (t q now : ByteArray) (v : Value) (A : Nat → Addr) (m : Int) (w : World) (S : Te w A m) (hT : T w) (N : Er.Sen w A) (I : Ixs w v Q0 L) (em : EmI Q0 L) (hok : okI L = true) (ht : t.size ≤ 70) (hq : q.size ≤ 60) (hnow : now.size ≤ 60) :
    Calls Tryz.prog 4 #[v, .string t, .string q, .string now] w fun e w' => e = .returned (.bool true) ∧ Below w.heap.size w w' := by
  obtain ⟨a0, c0, hv0, -⟩ := id I.es
  subst hv0
  have hn101 : L.length ≤ 101 := by rcases (okI_iff hok).1 with h | h <;> omega
  have g1 : ¬ (70 : Int) < (t.size : Int) := by omega
  have g2 : ¬ (60 : Int) < (q.size : Int) := by omega
  have g3 : ¬ (60 : Int) < (now.size : Int) := by omega
  have HIN := hid (picked_any PC KT A m w S hT)
  have HLO := hid (fun W (h : Below w.heap.size w W) => longI_any Q0 L _ W (I.below h))
  rw [if_pos hok] at HLO
  have HOW := hid (fun W (h : Below w.heap.size w W) => ownI_any Q0 L _ W (by omega) (I.below h) em (okI_fits hok))
  have HCC := hid (fun W (h : Below w.heap.size w W) => CC q A m W (by omega) (S.below h))
  have HQE := hid (fun W => rqerr_any q W (by omega))
  have HCD := hid (fun W (h : Below w.heap.size w W) => coded3_any A (qErr q) W (N.below h) (qErr_le q))
  have HPO := hid (fun W (h : Below w.heap.size w W) => rpick_all Q0 L t q now _ W (by omega) (by omega) (by omega) (okI_sh hok) (okI_short I hok) (I.below h))
  have HPP := hid (fun Q u W (h : Below w.heap.size w W) (J : Ixs W u Q L) => PC Q L t q now u A m W (by omega) (okI_sh hok) (okI_short J hok) (by omega) (by omega) (by omega) (S.below h) (KT w W hT h) J)
  have HFA := hid (fun r W y (h : Below w.heap.size w W) (hr : r.1 ≤ 10) (he : ErrAt W A y r.1 r.2) => faulted3_any A y r W (N.below h) he hr)
  have HK0 := hid (keys_of I)
  obtain ⟨ke, hke⟩ : ∃ ke, errA A (qErr q) = ke := ⟨_, rfl⟩
  rw [hke] at HCC HCD
  clear S N I em hok CC PC hke KT hT
  go_enter Tryz.func4, Tryz.ntmps4
  go_wp2_with fail
  refine HIN.out.mono ?_
  rintro e w1 ⟨rfl, hb⟩
  have HB1 := hid hb
  clear hb
  go_wp2_with fail
  refine (HLO.out w1 HB1.out).mono ?_
  rintro e w2 ⟨rfl, hb⟩
  have HB2 := hid (HB1.out.trans (hb.mono HB1.out.size))
  clear hb
  go_wp2_with fail
  refine (HCC.out w2 HB2.out).mono ?_
  rintro e w3 ⟨rfl, hb⟩
  have HB3 := hid (HB2.out.trans (hb.mono HB2.out.size))
  clear hb
  go_wp2_with fail
  refine (HQE.out w3).mono ?_
  rintro e w4 ⟨rfl, hb⟩
  have HB4 := hid (HB3.out.trans (hb.mono HB3.out.size))
  clear hb
  go_wp2_with fail
  refine (HCD.out w4 HB4.out).mono ?_
  rintro e w5 ⟨rfl, hb⟩
  have HB5 := hid (HB4.out.trans (hb.mono HB4.out.size))
  clear hb HIN HLO HCC HQE HCD HB1 HB2 HB3 HB4
  go_wp2_with fail
  refine (HOW.out w5 HB5.out).mono ?_
  rintro e w6 ⟨ou, Q, rfl, hO, hb⟩
  have HB6 := hid (HB5.out.trans (hb.mono HB5.out.size))
  have HKQ := hid ((keys_of hO.ixs).trans HK0.out.symm)
  have HP6 := hid (HPP.out Q ou w6 HB6.out hO.ixs)
  obtain ⟨oa, oc, hou, -⟩ := id hO.ixs.es
  subst hou
  clear hb hO HOW HPP HK0
  go_wp2_with fail
  refine HP6.out.mono ?_
  rintro e w7 ⟨X, y, hK, rfl, he, hb⟩
  rw [(pk_same HKQ.out).1] at he
  rw [(pk_same HKQ.out).2]
  have HB7 := hid (HB6.out.trans (hb.mono HB6.out.size))
  have HE7 := hid he
  have HK7 := hid hK
  clear hb he hK HP6
  obtain ⟨P1, hP1⟩ : ∃ P1, pkV Q0 L t q now X = P1 := ⟨_, rfl⟩
  have HV1 := hid hP1
  rw [hP1]
  clear hP1
  go_wp2_with fail
  refine (HPO.out w7 HB7.out).mono ?_
  rintro e w8 ⟨X', hK', rfl, hb⟩
  have HXX := hid (pk_any (Q := Q0) (L := L) (t := t) (q := q) (now := now) (X := X') (X' := X) fun hl => by
    have h1 := hK' hl
    have h2 := HK7.out (by unfold look at hl ⊢; rw [chk_same (key_mod HKQ.out)]; exact hl)
    rw [verO_same HKQ.out] at h2
    exact kept_one h1 h2)
  rw [HXX.out.1, HXX.out.2, HV1.out]
  have HB8 := hid (HB7.out.trans (hb.mono HB7.out.size))
  have HE8 := hid (HE7.out.below hb)
  have HLE := hid (pkF_le Q0 L t q now X)
  have HF8 := hid (fun r W (h : Below w.heap.size w W) (hr : r.1 ≤ 10) (he : ErrAt W A y r.1 r.2) => HFA.out r W y h hr he)
  clear hb hK' HXX HK7 HV1 HFA
  obtain ⟨f1, hf1⟩ : ∃ f1, pkF Q0 L t q now X = f1 := ⟨_, rfl⟩
  rw [hf1] at HE8 HLE ⊢
  clear hf1 HE7
  obtain ⟨b1, b2⟩ := f1
  have HF9 := hid (fun W (h : Below w.heap.size w W) (he : ErrAt W A y b1 b2) => HF8.out (b1, b2) W h HLE.out he)
  unfold faultV at HF9 ⊢
  simp only at HF9 HE8 ⊢
  have HA9 := hid ((Below.refl w8.heap.size w8).alloc (Nat.le_refl _) (.cells #[.int .i64 (b1 : Nat), .int .i64 (atOf b2)] 40))
  have HB9 := hid (HB8.out.trans (HA9.out.mono HB8.out.size))
  have HE9 := hid (HE8.out.below HA9.out)
  have s1 := str_refl P1
  generalize ((b1 : Nat) : Int) = F1 at *
  generalize atOf b2 = F2 at *
  go_wp2_with fail
  generalize w8.alloc (.cells #[.int .i64 F1, .int .i64 F2] 40) = w9 at *
  refine (HF9.out w9 HB9.out HE9.out).mono ?_
  rintro e w10 ⟨rfl, hb⟩
  have HBe := hid (HB9.out.trans (hb.mono HB9.out.size))
  clear hb
  go_wp2_with fail
  go_ret
  exact ⟨rfl, HBe.out⟩
set_option maxRecDepth 100000 in
set_option maxHeartbeats 2000000 in
theorem qp_long {T : World → Prop} (PC : PickC T) (KT : KeepT T) (Q0 : List Raw) (L : List Ent) (t q now : ByteArray) (v : Value) (A : Nat → Addr) (m : Int) (w : World) (S : Te w A m) (hT : T w) (I : Ixs w v Q0 L) (h : okI L = false ∨ (okI L = true ∧ (70 < t.size ∨ (¬ 70 < t.size ∧ (60 < q.size ∨ (¬ 60 < q.size ∧ 60 < now.size)))))) :
    Calls Tryz.prog 4 #[v, .string t, .string q, .string now] w fun e w' => e = .returned (.bool true) ∧ Below w.heap.size w w' := by
  obtain ⟨a0, c0, hv0, -⟩ := id I.es
  subst hv0
  have HIN := hid (picked_any PC KT A m w S hT)
  have HLO := hid (fun W (h : Below w.heap.size w W) => longI_any Q0 L _ W (I.below h))
  rcases h with h | ⟨h, h1 | ⟨h1, h2 | ⟨h2, h3⟩⟩⟩
  · rw [h] at HLO
    clear S I h PC KT hT
    go_enter Tryz.func4, Tryz.ntmps4
    go_wp2_with fail
    refine HIN.out.mono ?_
    rintro e w1 ⟨rfl, hb⟩
    have HB1 := hid hb
    clear hb
    go_wp2_with fail
    refine (HLO.out w1 HB1.out).mono ?_
    rintro e w2 ⟨rfl, hb⟩
    have HB2 := hid (HB1.out.trans (hb.mono HB1.out.size))
    clear hb
    go_wp2_with fail
    go_ret
    exact ⟨rfl, HB2.out⟩
  · rw [if_pos h] at HLO
    have g1 : (70 : Int) < (t.size : Int) := by omega
    clear S I h PC KT hT
    go_enter Tryz.func4, Tryz.ntmps4
    go_wp2_with fail
    refine HIN.out.mono ?_
    rintro e w1 ⟨rfl, hb⟩
    have HB1 := hid hb
    clear hb
    go_wp2_with fail
    refine (HLO.out w1 HB1.out).mono ?_
    rintro e w2 ⟨rfl, hb⟩
    have HB2 := hid (HB1.out.trans (hb.mono HB1.out.size))
    clear hb
    go_wp2_with fail
    go_ret
    exact ⟨rfl, HB2.out⟩
  · rw [if_pos h] at HLO
    have g1 : ¬ (70 : Int) < (t.size : Int) := by omega
    have g2 : (60 : Int) < (q.size : Int) := by omega
    clear S I h PC KT hT
    go_enter Tryz.func4, Tryz.ntmps4
    go_wp2_with fail
    refine HIN.out.mono ?_
    rintro e w1 ⟨rfl, hb⟩
    have HB1 := hid hb
    clear hb
    go_wp2_with fail
    refine (HLO.out w1 HB1.out).mono ?_
    rintro e w2 ⟨rfl, hb⟩
    have HB2 := hid (HB1.out.trans (hb.mono HB1.out.size))
    clear hb
    go_wp2_with fail
    go_ret
    exact ⟨rfl, HB2.out⟩
  · rw [if_pos h] at HLO
    have g1 : ¬ (70 : Int) < (t.size : Int) := by omega
    have g2 : ¬ (60 : Int) < (q.size : Int) := by omega
    have g3 : (60 : Int) < (now.size : Int) := by omega
    clear S I h PC KT hT
    go_enter Tryz.func4, Tryz.ntmps4
    go_wp2_with fail
    refine HIN.out.mono ?_
    rintro e w1 ⟨rfl, hb⟩
    have HB1 := hid hb
    clear hb
    go_wp2_with fail
    refine (HLO.out w1 HB1.out).mono ?_
    rintro e w2 ⟨rfl, hb⟩
    have HB2 := hid (HB1.out.trans (hb.mono HB1.out.size))
    clear hb
    go_wp2_with fail
    go_ret
    exact ⟨rfl, HB2.out⟩
theorem queryPicks_any {T : World → Prop} (CC : CheckC) (PC : PickC T) (KT : KeepT T) (Q0 : List Raw) (L : List Ent) (t q now : ByteArray) (v : Value) (A : Nat → Addr) (m : Int) (w : World) (S : Te w A m) (hT : T w) (N : Er.Sen w A) (I : Ixs w v Q0 L) (em : EmI Q0 L) :
    Calls Tryz.prog 4 #[v, .string t, .string q, .string now] w fun e w' => e = .returned (.bool true) ∧ Below w.heap.size w w' := by
  cases hok : okI L with
  | false => exact qp_long PC KT Q0 L t q now v A m w S hT I (Or.inl hok)
  | true =>
    by_cases h1 : 70 < t.size
    · exact qp_long PC KT Q0 L t q now v A m w S hT I (Or.inr ⟨hok, Or.inl h1⟩)
    by_cases h2 : 60 < q.size
    · exact qp_long PC KT Q0 L t q now v A m w S hT I (Or.inr ⟨hok, Or.inr ⟨h1, Or.inl h2⟩⟩)
    by_cases h3 : 60 < now.size
    · exact qp_long PC KT Q0 L t q now v A m w S hT I (Or.inr ⟨hok, Or.inr ⟨h1, Or.inr ⟨h2, h3⟩⟩⟩)
    exact qp_main CC PC KT Q0 L t q now v A m w S hT N I em hok (by omega) (by omega) (by omega)
end Ve
end Go.Proofs.YtmbphngmaglgmaaGreatDoor

/-
  Queries that a version makes, plain: signs ahead of it; where something is picked, and what it is like.
-/
namespace Go.Proofs.YtmbphngmaglgmaaGreatDoor
open Go.RowKit Go.Maps
namespace Ve

theorem app_list (a b : ByteArray) : (a ++ b).data.toList = a.data.toList ++ b.data.toList := by simp
theorem app_size (a b : ByteArray) : (a ++ b).size = a.size + b.size := by simp
theorem ver_head {v : ByteArray} (h : verErr v.data.toList = 0) : ∃ r, v.data.toList = 118 :: r := by
  unfold verErr at h
  have hm : marked v.data.toList = true := by
    cases e : marked v.data.toList with
    | true => rfl
    | false => rw [if_pos (Or.inl e)] at h; cases h
  cases hl : v.data.toList with
  | nil => rw [hl] at hm; cases hm
  | cons b r =>
    rw [hl] at hm
    unfold marked at hm
    simp at hm
    exact ⟨r, by rw [hm]⟩
theorem ext_app (a b : ByteArray) : (a ++ b).extract a.size (a ++ b).size = b := by
  apply str_ext
  rw [ext_drop, app_list]
  have : a.size = a.data.toList.length := by simp
  rw [this, List.drop_left]
theorem begB_list {q h : ByteArray} {l : List UInt8} (e : q.data.toList = l) : begB q h = h.data.toList.isPrefixOf l := by unfold begB Lib.hasPrefix; rw [e]
theorem sg_lt {v : ByteArray} (h : verErr v.data.toList = 0) : sgn (⟨#[60]⟩ ++ v) = (sLt, v) := by
  obtain ⟨r, hr⟩ := ver_head h
  have e : ((⟨#[60]⟩ : ByteArray) ++ v).data.toList = 60 :: 118 :: r := by rw [app_list, hr]; rfl
  have := sgn_2 (q := ⟨#[60]⟩ ++ v) (by rw [begB_list e]; rfl) (by rw [begB_list e]; rfl) (by rw [begB_list e]; rfl)
  rw [this]
  exact Prod.ext rfl (ext_app ⟨#[60]⟩ v)
theorem sg_gt {v : ByteArray} (h : verErr v.data.toList = 0) : sgn (⟨#[62]⟩ ++ v) = (sGt, v) := by
  obtain ⟨r, hr⟩ := ver_head h
  have e : ((⟨#[62]⟩ : ByteArray) ++ v).data.toList = 62 :: 118 :: r := by rw [app_list, hr]; rfl
  have := sgn_3 (q := ⟨#[62]⟩ ++ v) (by rw [begB_list e]; rfl) (by rw [begB_list e]; rfl) (by rw [begB_list e]; rfl) (by rw [begB_list e]; rfl)
  rw [this]
  exact Prod.ext rfl (ext_app ⟨#[62]⟩ v)
theorem sg_le {v : ByteArray} (h : verErr v.data.toList = 0) : sgn (⟨#[60, 61]⟩ ++ v) = (sLe, v) := by
  obtain ⟨r, hr⟩ := ver_head h
  have e : ((⟨#[60, 61]⟩ : ByteArray) ++ v).data.toList = 60 :: 61 :: 118 :: r := by rw [app_list, hr]; rfl
  have := sgn_0 (q := ⟨#[60, 61]⟩ ++ v) (by rw [begB_list e]; rfl)
  rw [this]
  exact Prod.ext rfl (ext_app ⟨#[60, 61]⟩ v)
theorem sg_ge {v : ByteArray} (h : verErr v.data.toList = 0) : sgn (⟨#[62, 61]⟩ ++ v) = (sGe, v) := by
  obtain ⟨r, hr⟩ := ver_head h
  have e : ((⟨#[62, 61]⟩ : ByteArray) ++ v).data.toList = 62 :: 61 :: 118 :: r := by rw [app_list, hr]; rfl
  have := sgn_1 (q := ⟨#[62, 61]⟩ ++ v) (by rw [begB_list e]; rfl) (by rw [begB_list e]; rfl)
  rw [this]
  exact Prod.ext rfl (ext_app ⟨#[62, 61]⟩ v)
theorem sg_v {v : ByteArray} (h : verErr v.data.toList = 0) : sgn v = (bE, v) := by
  obtain ⟨r, hr⟩ := ver_head h
  exact sgn_4 (by rw [begB_list hr]; rfl) (by rw [begB_list hr]; rfl) (by rw [begB_list hr]; rfl) (by rw [begB_list hr]; rfl)
theorem wd_no {q : ByteArray} {c : UInt8} {r : List UInt8} (e : q.data.toList = c :: r) (hc : c = 60 ∨ c = 62 ∨ c = 118) : isWd q = false := by
  have go : ∀ (b : ByteArray) (d : UInt8) (s : List UInt8), b.data.toList = d :: s → (d ≠ 60 ∧ d ≠ 62 ∧ d ≠ 118) → decide (q = b) = false := fun b d s hb hd => decide_eq_false fun h => by
    subst h
    rw [e] at hb
    injection hb with h1 h2
    subst h1
    rcases hc with h | h | h
    · exact hd.1 h
    · exact hd.2.1 h
    · exact hd.2.2 h
  unfold isWd
  rw [go bLatest 108 _ rfl (by decide), go bUpgrade 117 _ rfl (by decide), go bPatch 112 _ rfl (by decide), go bNone 110 _ rfl (by decide)]
  rfl
/-- A query that a version makes: no word; right; its sign. -/
structure VerQ (q sg v : ByteArray) : Prop where
  wd : isWd q = false
  sg : sgn q = (sg, v)
  er : qErr q = 0
  no : ¬ q = bNone
  up : ¬ q = bUpgrade
theorem verQ_of {q sg v : ByteArray} {c : UInt8} {r : List UInt8} (e : q.data.toList = c :: r) (hc : c = 60 ∨ c = 62 ∨ c = 118) (hs : sgn q = (sg, v)) (h : verErr v.data.toList = 0) : VerQ q sg v := by
  have hw := wd_no e hc
  have h2 := congrArg Prod.snd hs
  simp only at h2
  refine ⟨hw, hs, ?_, fun h => ?_, fun h => ?_⟩
  · rw [qErr_ver hw (Or.inr (by rw [h2, h]; decide)), h2]; exact h
  · have : isWd bNone = true := by unfold isWd; simp
    rw [h, this] at hw; cases hw
  · have : isWd bUpgrade = true := by unfold isWd; simp
    rw [h, this] at hw; cases hw
theorem vq_lt {v : ByteArray} (h : verErr v.data.toList = 0) : VerQ (⟨#[60]⟩ ++ v) sLt v := verQ_of (by rw [app_list]; rfl) (Or.inl rfl) (sg_lt h) h
theorem vq_gt {v : ByteArray} (h : verErr v.data.toList = 0) : VerQ (⟨#[62]⟩ ++ v) sGt v := verQ_of (by rw [app_list]; rfl) (Or.inr (Or.inl rfl)) (sg_gt h) h
theorem vq_le {v : ByteArray} (h : verErr v.data.toList = 0) : VerQ (⟨#[60, 61]⟩ ++ v) sLe v := verQ_of (by rw [app_list]; rfl) (Or.inl rfl) (sg_le h) h
theorem vq_ge {v : ByteArray} (h : verErr v.data.toList = 0) : VerQ (⟨#[62, 61]⟩ ++ v) sGe v := verQ_of (by rw [app_list]; rfl) (Or.inr (Or.inl rfl)) (sg_ge h) h
theorem vq_v {v : ByteArray} (h : verErr v.data.toList = 0) : VerQ v bE v := by
  obtain ⟨r, hr⟩ := ver_head h
  exact verQ_of hr (Or.inr (Or.inr rfl)) (sg_v h) h
theorem VerQ.s1 {q sg v : ByteArray} (h : VerQ q sg v) : (sgn q).1 = sg := by rw [h.sg]
theorem VerQ.s2 {q sg v : ByteArray} (h : VerQ q sg v) : (sgn q).2 = v := by rw [h.sg]
theorem VerQ.ok {q sg v now x : ByteArray} (h : VerQ q sg v) : okQ q now x = suitB q x := okQ_suit h.wd
theorem ok_lt {q v now x : ByteArray} (h : VerQ q sLt v) : okQ q now x = lessB x.data.toList v.data.toList := by rw [h.ok, suit_lt h.s1, h.s2]
theorem ok_le {q v now x : ByteArray} (h : VerQ q sLe v) : okQ q now x = !lessB v.data.toList x.data.toList := by rw [h.ok, suit_le h.s1, h.s2]
theorem ok_gt {q v now x : ByteArray} (h : VerQ q sGt v) : okQ q now x = lessB v.data.toList x.data.toList := by rw [h.ok, suit_gt h.s1, h.s2]
theorem ok_ge {q v now x : ByteArray} (h : VerQ q sGe v) : okQ q now x = !lessB x.data.toList v.data.toList := by rw [h.ok, suit_ge h.s1, h.s2]
theorem ok_v {v now x : ByteArray} (h : VerQ v bE v) (hv : verErr v.data.toList = 0) : okQ v now x = decide (x = v) := by rw [h.ok, suit_ver h.s1 hv]
/-- The one that is liked: one of them, or there is none. -/
theorem likG_in {Q : List Raw} {t : ByteArray} {b : Bool} {X : List ByteArray} : (X = [] ∧ likG Q t b X = bE) ∨ likG Q t b X ∈ X := by
  by_cases h0 : X.length = 0
  · have hX : X = [] := List.eq_nil_of_length_eq_zero h0
    subst hX
    refine Or.inl ⟨rfl, ?_⟩
    unfold likG
    split <;> rfl
  · refine Or.inr ?_
    unfold likG
    split
    · obtain ⟨j, hj, _, e, _⟩ := (likNL_is (Q := Q) (t := t) (X := X) X.length (Nat.le_refl _)).p (by omega)
      rw [e]; exact List.getElem_mem hj
    · obtain ⟨j, hj, _, e, _⟩ := (likN_is (Q := Q) (t := t) (X := X) X.length (Nat.le_refl _)).p (by omega)
      rw [e]; exact List.getElem_mem hj
theorem ver_neQ {x : ByteArray} (h : verErr x.data.toList = 0) : ¬ x = bE := fun e => by
  obtain ⟨r, hr⟩ := ver_head h
  rw [e] at hr; cases hr
/-- Where it looks: what is told. -/
theorem pk_look {Q : List Raw} {L : List Ent} {t q now : ByteArray} {X : List ByteArray} (hl : look Q L q) (hv : ∀ x, x ∈ X → verErr x.data.toList = 0) :
    ((∀ x, x ∈ X → okQ q now x = false) ∧ pkF Q L t q now X = (5, none) ∧ pkV Q L t q now X = bE) ∨
    (∃ x, x ∈ X ∧ okQ q now x = true ∧ pkF Q L t q now X = (0, none) ∧ pkV Q L t q now X = if q = bUpgrade then maxB x now else x) := by
  obtain ⟨h1, h2, h3⟩ := hl
  have g1 : ¬ qErr q ≠ 0 := by rw [h1]; simp
  have g2 : ¬ (chk Q L).1 ≠ 0 := by rw [h2]; simp
  rw [pkF_m g1 g2 h3, pkV_m g1 g2 h3]
  unfold pkB
  rcases likG_in (Q := Q) (t := t) (b := leastQ q) (X := someQ q now X) with ⟨e1, e2⟩ | h
  · refine Or.inl ⟨fun x hx => ?_, by rw [if_pos e2], by rw [if_pos e2]⟩
    cases e : okQ q now x with
    | false => rfl
    | true =>
      have : x ∈ someQ q now X := List.mem_filter.2 ⟨hx, e⟩
      rw [e1] at this; cases this
  · obtain ⟨m1, m2⟩ := List.mem_filter.1 h
    have hne := ver_neQ (hv _ m1)
    exact Or.inr ⟨_, m1, m2, by rw [if_neg hne], by rw [if_neg hne]⟩
end Ve
end Go.Proofs.YtmbphngmaglgmaaGreatDoor

/-
  What pewholderlaw3.QuerySplits and QueryHolds ask of index.Versions and of query.Pick; counting.
-/
namespace Go.Proofs.YtmbphngmaglgmaaGreatDoor
open Go.RowKit Go.Maps
namespace Ve

/-- What is asked of index.Versions. -/
def VersC : Prop := ∀ (L : List Raw) (t : ByteArray) (v : Value) (aT aB : Addr) (m : Int) (w : World), L.length ≤ 1000 → shortQ L → Vs w aT aB m → Lib.TabIs Tryz.prog w powName .u64 Lib.pow10Tab → EsAt w v L →
  Calls Tryz.prog 10 #[v, .string t] w fun e w' => ∃ u, e = .returned u ∧ ∃ X, w'.ownsRow w.heap.size 9 1 u X.length (X.map Value.string) ∧ Kept (verL (ofP t L)) (verL (ofP t L)).length X ∧ Below w.heap.size w w'
theorem versC_of : VersC := fun L t v aT aB m w h1 h2 h3 h4 h5 => vers_any L t v aT aB m w h1 h2 h3 h4 h5
/-- query.Pick, where it looks: something is picked, or nothing. -/
theorem pick_t {T : World → Prop} (PC : PickC T) {Q : List Raw} {L : List Ent} {t q now : ByteArray} {u : Value} {A : Nat → Addr} {m : Int} {W : World} {X : List ByteArray} {P : ByteArray → Bool} (hn : L.length ≤ 200) (sh : ∀ e, e ∈ L → ShE e) (hz : shortQ Q) (ht : t.size ≤ 100) (hq : q.size ≤ 100) (hw : now.size ≤ 100) (S : Te W A m) (hT : T W) (I : Ixs W u Q L)
    (hK : Kept (verL (ofP t Q)) (verL (ofP t Q)).length X) (hl : look Q L q) (hv : ∀ x, x ∈ X → verErr x.data.toList = 0) (hup : ¬ q = bUpgrade) (hP : ∀ x, x ∈ X → okQ q now x = P x) (ha : X.any P = true) :
    Calls Tryz.prog 13 #[u, .string t, .string q, .string now] W fun e w' => ∃ z, e = .returned (.tuple #[.string z, .nilIface]) ∧ z ∈ X ∧ P z = true ∧ Below W.heap.size W w' := by
  refine (PC Q L t q now u A m W hn sh hz ht hq hw S hT I).mono ?_
  rintro e w' ⟨X', y, hK', rfl, he, hb⟩
  have := kept_one (hK' hl) hK
  subst this
  rcases pk_look (t := t) (now := now) hl hv with ⟨h1, _, _⟩ | ⟨x, h1, h2, h3, h4⟩
  · obtain ⟨x, hx, h2⟩ := List.any_eq_true.1 ha
    have h3 := h1 x hx
    rw [hP x hx, h2] at h3
    cases h3
  · rw [h3] at he
    have he : y = .nilIface := he
    subst he
    rw [if_neg hup] at h4
    exact ⟨x, by rw [h4], h1, by rw [← hP x h1]; exact h2, hb⟩
theorem pick_f {T : World → Prop} (PC : PickC T) {Q : List Raw} {L : List Ent} {t q now : ByteArray} {u : Value} {A : Nat → Addr} {m : Int} {W : World} {X : List ByteArray} {P : ByteArray → Bool} (hn : L.length ≤ 200) (sh : ∀ e, e ∈ L → ShE e) (hz : shortQ Q) (ht : t.size ≤ 100) (hq : q.size ≤ 100) (hw : now.size ≤ 100) (S : Te W A m) (hT : T W) (I : Ixs W u Q L)
    (hK : Kept (verL (ofP t Q)) (verL (ofP t Q)).length X) (hl : look Q L q) (hv : ∀ x, x ∈ X → verErr x.data.toList = 0) (hP : ∀ x, x ∈ X → okQ q now x = P x) (ha : X.any P = false) :
    Calls Tryz.prog 13 #[u, .string t, .string q, .string now] W fun e w' => ∃ Ty a, e = .returned (.tuple #[.string ⟨#[]⟩, .iface Ty (.pointer (some a))]) ∧ Below W.heap.size W w' := by
  refine (PC Q L t q now u A m W hn sh hz ht hq hw S hT I).mono ?_
  rintro e w' ⟨X', y, hK', rfl, he, hb⟩
  have := kept_one (hK' hl) hK
  subst this
  rcases pk_look (t := t) (now := now) hl hv with ⟨_, h2, h3⟩ | ⟨x, h1, h2, _, _⟩
  · rw [h2] at he
    rcases he.kind with ⟨h, _⟩ | ⟨_, Ty, a, rfl⟩
    · cases h
    · exact ⟨Ty, a, by rw [h3]; rfl, hb⟩
  · have : X'.any P = true := List.any_eq_true.2 ⟨x, h1, by rw [← hP x h1]; exact h2⟩
    rw [ha] at this; cases this
/-- How many of them are so. -/
def cntP (P : ByteArray → Bool) (X : List ByteArray) : Nat := (X.filter P).length
theorem cntP_yes {P : ByteArray → Bool} {X : List ByteArray} {i : Nat} (h : i < X.length) (hp : P X[i] = true) : cntP P (X.take (i + 1)) = cntP P (X.take i) + 1 := by
  unfold cntP
  rw [List.take_succ_eq_append_getElem h, List.filter_append, List.length_append]
  simp [hp]
theorem cntP_no {P : ByteArray → Bool} {X : List ByteArray} {i : Nat} (h : i < X.length) (hp : P X[i] = false) : cntP P (X.take (i + 1)) = cntP P (X.take i) := by
  unfold cntP
  rw [List.take_succ_eq_append_getElem h, List.filter_append, List.length_append]
  simp [hp]
theorem cntP_le (P : ByteArray → Bool) (X : List ByteArray) : cntP P X ≤ X.length := List.length_filter_le _ _
theorem cntP_any {P : ByteArray → Bool} {X : List ByteArray} (h : X.any P = true) : 0 < cntP P X := by
  obtain ⟨x, hx, hp⟩ := List.any_eq_true.1 h
  exact List.length_pos_of_mem (List.mem_filter.2 ⟨hx, hp⟩)
theorem cntP_none {P : ByteArray → Bool} {X : List ByteArray} (h : X.any P = false) : cntP P X = 0 := by
  unfold cntP
  rw [List.length_eq_zero_iff, List.filter_eq_nil_iff]
  intro x hx hp
  have := List.any_eq_true.2 ⟨x, hx, hp⟩
  rw [h] at this; cases this
theorem one_cnt {a : Nat} {p : Bool} (h1 : p = true → 0 < a) (h2 : p = false → a = 0) : (p = true → (0 : Int) < (a : Int)) ∧ (p = false → ¬ (0 : Int) < (a : Int)) :=
  ⟨fun h => by have := h1 h; omega, fun h => by have := h2 h; omega⟩
theorem sum_two {a b : Nat} {p q : Bool} (ha : a ≤ 30) (hb : b ≤ 30) (h1 : p = true → 0 < a) (h2 : p = false → a = 0) (h3 : q = true → 0 < b) (h4 : q = false → b = 0) : ∃ s : Int, wrap64 ((a : Int) + (b : Int)) = s ∧ IntKind.i64.wrap ((a : Int) + (b : Int)) = s ∧ ((p || q) = true → 0 < s) ∧ ((p || q) = false → ¬ 0 < s) := by
  refine ⟨(a : Int) + (b : Int), IntWalk.wrap64_in _ (by omega), by rw [IntKind.wrap_i64] <;> omega, fun h => ?_, fun h => ?_⟩
  · rcases Bool.or_eq_true_iff.1 h with h | h
    · have := h1 h; omega
    · have := h3 h; omega
  · rw [Bool.or_eq_false_iff] at h
    have := h2 h.1; have := h4 h.2; omega
def pLs (v x : ByteArray) : Bool := decide (ordV x.data.toList v.data.toList < 0)
def pMr (v x : ByteArray) : Bool := decide (0 < ordV x.data.toList v.data.toList)
def pSm (v x : ByteArray) : Bool := decide (ordV x.data.toList v.data.toList = 0)
theorem any_or (P R : ByteArray → Bool) (X : List ByteArray) : X.any (fun x => P x || R x) = (X.any P || X.any R) := by
  induction X with
  | nil => rfl
  | cons a l ih => simp only [List.any_cons, ih]; cases P a <;> cases R a <;> simp
theorem lt_v {v x : ByteArray} (hv : verErr v.data.toList = 0) (hx : verErr x.data.toList = 0) : lessB x.data.toList v.data.toList = pLs v x := by unfold lessB pLs; simp [hv, hx]
theorem gt_v {v x : ByteArray} (hv : verErr v.data.toList = 0) (hx : verErr x.data.toList = 0) : lessB v.data.toList x.data.toList = pMr v x := by
  unfold lessB pMr
  rw [decide_eq_true hv, decide_eq_true hx, Bool.true_and, Bool.true_and, ordV_swap x.data.toList v.data.toList]
  rw [Bool.eq_iff_iff, decide_eq_true_iff, decide_eq_true_iff]
  omega
theorem le_v {v x : ByteArray} (hv : verErr v.data.toList = 0) (hx : verErr x.data.toList = 0) : (!lessB v.data.toList x.data.toList) = (pLs v x || pSm v x) := by
  rw [gt_v hv hx]
  unfold pMr pLs pSm
  rw [Bool.eq_iff_iff, Bool.or_eq_true, decide_eq_true_iff, decide_eq_true_iff, Bool.not_eq_true', decide_eq_false_iff_not]
  omega
theorem ge_v {v x : ByteArray} (hv : verErr v.data.toList = 0) (hx : verErr x.data.toList = 0) : (!lessB x.data.toList v.data.toList) = (pMr v x || pSm v x) := by
  rw [lt_v hv hx]
  unfold pMr pLs pSm
  rw [Bool.eq_iff_iff, Bool.or_eq_true, decide_eq_true_iff, decide_eq_true_iff, Bool.not_eq_true', decide_eq_false_iff_not]
  omega
theorem eq_v {v x : ByteArray} (hv : verErr v.data.toList = 0) (hx : verErr x.data.toList = 0) : decide (x = v) = pSm v x := by
  unfold pSm
  rw [Bool.eq_iff_iff, decide_eq_true_iff, decide_eq_true_iff, ordV_zero hx hv]
  exact ⟨fun h => by rw [h], fun h => str_ext h⟩
end Ve
end Go.Proofs.YtmbphngmaglgmaaGreatDoor

/-
  An index and a row of modules that a caller hands in, opened.
-/
namespace Go.Proofs.YtmbphngmaglgmaaGreatDoor
open Go.ChangeShapes Go.WideShapes Go.ChangeAt Go.RowKit Go.ChangeMaps Go.Joins
namespace Ve

theorem oCellsMod : Tryz.prog.cellsOf 53 = 2 := by kernel_rfl
theorem oCellsStr : Tryz.prog.cellsOf 9 = 1 := by kernel_rfl
theorem oCellsEnt : Tryz.prog.cellsOf 56 = 5 := by kernel_rfl
theorem oCellsMods : Tryz.prog.cellsOf 54 = 1 := by kernel_rfl
theorem oCellsSstr : Tryz.prog.cellsOf 29 = 1 := by kernel_rfl
theorem oCellsBool : Tryz.prog.cellsOf 4 = 1 := by kernel_rfl
/-- The bytes of a string; none of what is no string. -/
def strOf : Value → ByteArray
  | .string s => s
  | _ => ⟨#[]⟩
set_option maxRecDepth 100000 in
/-- A row of modules, opened. -/
theorem open_ms {H : Type} {enc : TypeId × Value → H} {w : World} {base fuel : Nat} {held : Bool} {v : Value} {x : DataW H × List MemPlace}
    (h : DataW.trod enc Tryz.prog w base (fun _ => true) held fuel 54 [v] = some x) : ∃ L, MsAt w v L ∧ Em v L := by
  rcases Go.Deep.open_slice_pairs Tryz.underlying54 Tryz.underlying53 oCellsMod rfl rfl oCellsStr oCellsStr h with ⟨hcs, _⟩ | ⟨a, len, cap, m, n, V0, V1, D0, D1, P0, P1, hcs, _, hl, _, hm, _, hx⟩
  · simp only [List.cons.injEq, and_true] at hcs
    subst hcs
    exact ⟨[], ⟨none, 0, rfl, Nat.le_refl _, fun h => absurd rfl h⟩, fun a c e _ => Or.inl e.symm⟩
  · simp only [List.cons.injEq, and_true] at hcs
    subst hcs
    simp only [if_true] at hm
    subst hm
    have hlen : ((List.range len).map fun i => (strOf (V0 i), strOf (V1 i))).length = len := by simp
    refine ⟨(List.range len).map fun i => (strOf (V0 i), strOf (V1 i)), ⟨some a, m, by rw [hlen], by rw [hlen]; exact hl, fun hne => ?_⟩, fun a' c e h0 => ?_⟩
    · have h0l : 0 < len := by rw [← hlen]; exact List.length_pos_iff.2 hne
      obtain ⟨b, off, spot⟩ := a
      have hspot : spot = none := by simpa [Addr.add] using World.cell?_spot (hx 0 (by omega)).1
      subst hspot
      refine ⟨b, off, rfl, fun j hj => ?_⟩
      have hj2 : j < len := by rw [← hlen]; exact hj
      obtain ⟨g0, g1, t0, t1⟩ := hx j (by omega)
      obtain ⟨s0, e0, _, _⟩ := DataW.trod_string Tryz.underlying9 t0
      obtain ⟨s1, e1, _, _⟩ := DataW.trod_string Tryz.underlying9 t1
      simp only [List.cons.injEq, and_true] at e0 e1
      rw [e0] at g0
      rw [e1] at g1
      simp only [List.getElem_map, List.getElem_range, e0, e1]
      rw [Addr.add_lit] at g0 g1
      exact ⟨g0, g1⟩
    · have hz : len = 0 := by rw [← hlen, h0]; rfl
      rw [hlen] at e
      subst hz
      right
      injection e with e1 e2 e3
      exact ⟨a, by rw [← e1]⟩
set_option maxRecDepth 100000 in
/-- A row of texts, opened. -/
theorem open_tx {H : Type} {enc : TypeId × Value → H} {w : World} {base fuel : Nat} {held : Bool} {v : Value} {x : DataW H × List MemPlace}
    (h : DataW.trod enc Tryz.prog w base (fun _ => true) held fuel 29 [v] = some x) : ∃ X, TxAt w v X ∧ EmT v X := by
  rcases open_strings Tryz.underlying29 Tryz.underlying9 oCellsStr h with ⟨hcs, _⟩ | ⟨a, len, cap, ss, hcs, _, hl, _, hm, _, hx, _⟩
  · simp only [List.cons.injEq, and_true] at hcs
    subst hcs
    exact ⟨[], ⟨none, 0, rfl, Nat.le_refl _, fun h => absurd rfl h⟩, fun a c e _ => Or.inl e.symm⟩
  · simp only [List.cons.injEq, and_true] at hcs
    subst hcs
    simp only [if_true] at hm
    have hlen : (ss.take len).length = len := by rw [List.length_take]; omega
    refine ⟨ss.take len, ⟨some a, cap, by rw [hlen], by rw [hlen]; exact hl, fun hne => ?_⟩, fun a' c e h0 => ?_⟩
    · have h0l : 0 < len := by rw [← hlen]; exact List.length_pos_iff.2 hne
      obtain ⟨b, off, spot⟩ := a
      have hspot : spot = none := by simpa [Addr.add] using World.cell?_spot (hx 0 (by omega))
      subst hspot
      refine ⟨b, off, rfl, fun j hj => ?_⟩
      have hj2 : j < len := by rw [← hlen]; exact hj
      have g := hx j (by omega)
      rw [Addr.add_lit, List.getD_eq_getElem?_getD, List.getElem?_eq_getElem (by omega)] at g
      rw [List.getElem_take]
      exact g
    · have hz : len = 0 := by rw [← hlen, h0]; rfl
      rw [hlen] at e
      subst hz
      right
      injection e with e1 e2 e3
      exact ⟨a, by rw [← e1]⟩
set_option maxRecDepth 100000 in
/-- An entry, opened. -/
theorem open_ent {H : Type} {enc : TypeId × Value → H} {w : World} {base fuel : Nat} {held : Bool} {cs : List Value} {x : DataW H × List MemPlace}
    (h : DataW.trod enc Tryz.prog w base (fun _ => true) held fuel 56 cs = some x) : ∃ (r : Raw) (e : Ent), cs = rowR r ∧ slR r ∧ RawOk w r e ∧ Em r.2.1 e.2.1 ∧ EmT r.2.2.1 e.2.2.1 := by
  obtain ⟨y0, y1, y2, y3, n, _, hl, h0, h1, h2, h3⟩ := trod_struct4 Tryz.underlying56 h
  rw [oCellsEnt] at hl
  match cs, hl with
  | [c0, c1, c2, c3, c4], _ =>
    simp only [oCellsMod, oCellsMods, oCellsSstr, oCellsBool, List.drop, List.take] at h0 h1 h2 h3
    obtain ⟨z0, z1, n2, _, _, k0, k1⟩ := trod_struct2 Tryz.underlying53 h0
    simp only [oCellsStr, List.drop, List.take] at k0 k1
    obtain ⟨s0, e0, _, _⟩ := DataW.trod_string Tryz.underlying9 k0
    obtain ⟨s1, e1, _, _⟩ := DataW.trod_string Tryz.underlying9 k1
    obtain ⟨R, hR, hER⟩ := open_ms h1
    obtain ⟨X, hX, hEX⟩ := open_tx h2
    obtain ⟨b, e4, _⟩ := DataW.trod_bool Tryz.underlying4 h3
    simp only [List.cons.injEq, and_true] at e0 e1 e4
    subst e0 e1 e4
    refine ⟨((s0, s1), c2, c3, b), ((s0, s1), R, X, b), rfl, ⟨?_, ?_⟩, ⟨rfl, hR, hX, rfl⟩, hER, hEX⟩
    · obtain ⟨a, c, e, _⟩ := hR; exact ⟨_, _, _, e⟩
    · obtain ⟨a, c, e, _⟩ := hX; exact ⟨_, _, _, e⟩
set_option maxRecDepth 100000 in
/-- An index, opened. -/
theorem open_ix {H : Type} {enc : TypeId × Value → H} {w : World} {base fuel : Nat} {held : Bool} {v : Value} {x : DataW H × List MemPlace}
    (h : DataW.trod enc Tryz.prog w base (fun _ => true) held fuel 22 [v] = some x) : ∃ Q L, Ixs w v Q L ∧ EmI Q L := by
  rcases Go.Deep.open_slice Tryz.underlying22 h with ⟨hcs, _⟩ | ⟨a, len, cap, m, n, D, Pl, hcs, _, hl, _, hm, _, hx⟩
  · simp only [List.cons.injEq, and_true] at hcs
    subst hcs
    exact ⟨[], [], ⟨⟨none, 0, rfl, Nat.le_refl _, fun r hr => (by cases hr), fun h => absurd rfl h⟩, rfl, fun j h1 => absurd h1 (Nat.not_lt_zero _)⟩, fun j h1 => absurd h1 (Nat.not_lt_zero _)⟩
  · simp only [List.cons.injEq, and_true] at hcs
    subst hcs
    simp only [if_true] at hm
    subst hm
    have each : ∀ i, i < len → ∃ q : Raw × Ent, (∀ c (hc : c < 5), w.cell? (a.add (i * 5 + c)) = (rowR q.1)[c]?) ∧ slR q.1 ∧ RawOk w q.1 q.2 ∧ Em q.1.2.1 q.2.2.1 ∧ EmT q.1.2.2.1 q.2.2.2.1 := fun i hi => by
      obtain ⟨cs', h1, h2⟩ := hx i (by omega)
      obtain ⟨r, e, hcs, k1, k2, k3, k4⟩ := open_ent h2
      rw [oCellsEnt] at h1
      obtain ⟨_, hlen, hcell⟩ := World.cells?_some h1
      refine ⟨(r, e), fun c hc => ?_, k1, k2, k3, k4⟩
      have := hcell c (by omega)
      rw [Go.Deep.add_add] at this
      rw [this, hcs]
    obtain ⟨q, hq⟩ := Go.Deep.choose_lt each
    have hlq : ((List.range len).map fun i => (q i).1).length = len := by simp
    have hll : ((List.range len).map fun i => (q i).2).length = len := by simp
    refine ⟨(List.range len).map fun i => (q i).1, (List.range len).map fun i => (q i).2, ⟨⟨some a, m, by rw [hlq], by rw [hlq]; exact hl, fun r hr => ?_, fun hne => ?_⟩, by rw [hlq, hll], fun j h1 h2 => ?_⟩, fun j h1 h2 => ?_⟩
    · obtain ⟨i, hi, rfl⟩ := List.mem_map.1 hr
      exact (hq i (List.mem_range.1 hi)).2.1
    · have h0l : 0 < len := by rw [← hlq]; exact List.length_pos_iff.2 hne
      obtain ⟨b, off, spot⟩ := a
      have g0 := (hq 0 h0l).1 0 (by omega)
      have hspot : spot = none := by
        have : ∃ u, World.cell? w ((⟨b, off, spot⟩ : Addr).add (0 * 5 + 0)) = some u := ⟨_, g0⟩
        obtain ⟨u, hu⟩ := this
        simpa [Addr.add] using World.cell?_spot hu
      subst hspot
      refine ⟨b, off, rfl, fun j hj => ?_⟩
      have hj2 : j < len := by rw [← hlq]; exact hj
      have g := (hq j hj2).1
      simp only [List.getElem_map, List.getElem_range]
      refine ⟨?_, ?_, ?_, ?_, ?_⟩
      · have := g 0 (by omega); rw [Addr.add_lit] at this; exact this
      · have := g 1 (by omega); rw [Addr.add_lit] at this; exact this
      · have := g 2 (by omega); rw [Addr.add_lit] at this; exact this
      · have := g 3 (by omega); rw [Addr.add_lit] at this; exact this
      · have := g 4 (by omega); rw [Addr.add_lit] at this; exact this
    · have hj2 : j < len := by rw [← hlq]; exact h1
      simp only [List.getElem_map, List.getElem_range]
      exact (hq j hj2).2.2.1
    · have hj2 : j < len := by rw [← hlq]; exact h1
      simp only [List.getElem_map, List.getElem_range]
      exact (hq j hj2).2.2.2
end Ve
end Go.Proofs.YtmbphngmaglgmaaGreatDoor

/-
  The plain wrap with a condition, the world's shape kept; variables laid over a world.
-/
namespace Go.Proofs.YtmbphngmaglgmaaGreatDoor
open Go.ChangeShapes Go.WideShapes Go.ChangeAt Go.RowKit
namespace Ve

/-- The plain wrap with a condition, the world's shape kept. -/
theorem wrap_and_shaped {H : Type} {enc : TypeId × Value → H} {a : Assume} {C : Checked} {os : Go.Os} {f : FuncId} {fn : Func} {s : ChangeSpec} {conds : List PathCond} {apart fresh handsOn again : Bool} {X : World → Array Value → Prop}
    (hX : ∀ (w w' : World) (args : Array Value), w.heap = w'.heap → X w args → X w' args)
    (own : ownKnob C.prog.godebug = none) (started : os.Started) (noInit : C.prog.inits.idxOf? f = none) (hfn : C.prog.funcs[f]? = some fn)
    (witness : ∃ (w : World) (tape : Tape) (i : Input), w.os = os ∧ (w.forCall tape i).Shaped C.prog ∧ i.vars = [] ∧ Input.okWide C.prog (w.forCall tape i) .any w.heap.size f i ∧
      ((s.pre enc C.prog fn conds apart (w.forCall tape i).memory i.args ∧ X (w.forCall tape i).memory i.args) ∧ sizedMet enc C.prog fn (OpenSpec.ofChange s) apart (w.forCall tape i).memory i.args) ∧ a.holds C.prog (lone (Frame.enter C.prog f i.args .normal) [] (w.forCall tape i)))
    (contract : ∀ (W : World) (base : Nat) (args : Array Value) (ds gs : List (DataW H)) (before : List MemPlace),
      (∀ (j : Nat) t v, fn.params[j]? = some t → args[j]? = some v → Value.okWide C.prog W .any base t v) →
      DataW.Whole enc C.prog fn.params.toList s.vars apart W args.toList ds gs before → X W args → W.ShapedOpen C.prog →
      Calls C.prog f args W fun e W' => ∃ v, e = .returned v ∧ s.post enc C.prog fn apart fresh handsOn again W args v W') :
    ReturnsInHanded a C os f .any (fun w args => (s.pre enc C.prog fn conds apart w args ∧ X w args) ∧ sizedMet enc C.prog fn (OpenSpec.ofChange s) apart w args) (s.post enc C.prog fn apart fresh handsOn again) := by
  refine returnsInHanded_of_calls own started noInit witness ?_
  intro w tape i _ hsh _ hok hpre _
  obtain ⟨_, _, _, fn', hfn', _, _, _, _, hval⟩ := hok
  have e : fn' = fn := Option.some.inj (hfn'.symm.trans hfn)
  subst e
  obtain ⟨⟨⟨ds, gs, before, hw, _⟩, hx⟩, _⟩ := hpre
  have hw' := DataW.Whole.of_heap (w' := w.forCall tape i) (by rfl) hw
  refine (contract (w.forCall tape i) w.heap.size i.args ds gs before hval hw' (hX _ _ _ (by rfl) hx) hsh).mono fun e W' ⟨v, he, hp⟩ => ?_
  subst he
  exact ChangeSpec.post_blind hp

/-- All that is listed, laid over a world. -/
theorem laidMet_over {P : Program} {w0 : World} {laid : List (String × DataW Unit)} (args : Array Value)
    (hf : w0.layFits P laid [] = true) (hi : w0.layIfaces P laid (w0.layVars P laid) = true) :
    laidMet P laid ((w0.layVars P laid).forCall (fun _ _ => 0) ⟨#[], args, []⟩).memory := by
  have e1 : (laid.filter fun x => (laid.map (·.1)).contains x.1) = laid := List.filter_eq_self.2 fun x hx => List.contains_iff_mem.2 (List.mem_map.2 ⟨x, hx, rfl⟩)
  have e2 : (laid.filter fun x => !(laid.map (·.1)).contains x.1) = [] := List.filter_eq_nil_iff.2 fun x hx => by rw [List.contains_iff_mem.2 (List.mem_map.2 ⟨x, hx, rfl⟩)]; simp
  have h : laidMet P laid (w0.layVars P laid) := laidMet_layVars (w0 := w0) (laid.map (·.1)) [] (by rw [e1]) (by rw [e1]; exact hf) (by rw [e1]; exact hi) (by rw [e2]; exact LaidIn.none)
  exact h.of_heap (by simp [World.memory, World.forCall, Input.heap])
end Ve
end Go.Proofs.YtmbphngmaglgmaaGreatDoor

/-
  What a list of laid sentinels gives a walk, however long the list: each variable's cell, each pointee's block, and that no two are one.
-/
namespace Go.Proofs.YtmbphngmaglgmaaGreatDoor
namespace Er
open Go

theorem sens_rest {P : Program} {nm : String} {W : World} {ti tp te ts : TypeId} {ms : Array (String × TypeId)} {f : Field}
    (hi : P.underlying ti = some (.interface ms)) (hrow : ∀ u, P.typeName? 3 u = some nm → u = tp)
    (hp : P.underlying tp = some (.pointer te)) (he : P.underlying te = some (.struct #[f])) (hft : f.type = ts) (hfo : f.offset = 0) (hs : P.underlying ts = some .string) (hc : P.cellsOf te = 1) (hcs : P.cellsOf ts = 1) (rest : List (String × DataW Unit)) :
    ∀ (ns : List (String × Nat × List UInt8)) (ps : List MemPlace),
      DataW.LaidVars P W ((ns.map fun x => (x.1, DataW.iface nm (.ptr (.agg [.lit (.string x.2.2)])))) ++ rest) ps →
      (∀ x, x ∈ ns → P.globalNamed x.1 = some x.2.1 ∧ (P.globals[x.2.1]?).map (·.type) = some ti) →
      (∀ b off, MemPlace.cell b off ∈ ps → (∃ c t, W.heap[b]? = some (.cells c t (0, 0))) ∧ ∀ u v, W.cell? ⟨b, off, none⟩ = some (.iface u v) → Value.okWide P W .any 0 u v) →
      ∃ al : List Addr, al.length = ns.length ∧ (al.map fun a => MemPlace.cell a.block a.off).Sublist ps ∧
        ∀ (i : Nat) (x : String × Nat × List UInt8) (a : Addr), ns[i]? = some x → al[i]? = some a →
          W.cell? ⟨x.2.1, 0, none⟩ = some (.iface tp (.pointer (some a))) ∧ ∃ c t, W.heap[a.block]? = some (.cells c t (0, 0)) := by
  intro ns
  induction ns with
  | nil =>
    intro ps _ _ _
    exact ⟨[], rfl, List.nil_sublist _, fun i x a h => by simp at h⟩
  | cons n r ih =>
    intro ps hl hg hr
    obtain ⟨g, t, cs, fuel, p, q, hg0, ht0, hv0, hd0, hq, e0⟩ := hl
    obtain ⟨k1, k2⟩ := hg n (List.mem_cons_self)
    obtain rfl := Option.some.inj (k1.symm.trans hg0)
    obtain rfl := Option.some.inj (k2.symm.trans ht0)
    subst e0
    obtain ⟨l0⟩ := cs
    have ok0 : ∀ u v, l0 = [.iface u v] → Value.okWide P W .any 0 u v := fun u v e => by
      subst e
      exact (hr n.2.1 0 (by simp [MemPlace.row])).2 u v (by simpa using World.var?_cell hg0 hv0 0)
    obtain ⟨a0, s0, rfl, hc0, hs0, hz0, rfl⟩ := errorString_of_trod hi hrow hp he hft hfo hs hc hcs hd0 ok0
    obtain ⟨al, hlen, hsub, hall⟩ := ih q hq (fun x hx => hg x (List.mem_cons_of_mem _ hx)) (fun b off hm => hr b off (by simp [hm]))
    refine ⟨a0 :: al, by simp [hlen], ?_, ?_⟩
    · simp only [List.map_cons, MemPlace.row, List.range_one, List.map_nil, Nat.add_zero]
      exact List.Sublist.cons _ (List.Sublist.cons_cons _ hsub)
    · intro i x a hx ha
      cases i with
      | zero =>
        simp only [List.getElem?_cons_zero, Option.some.injEq] at hx ha
        subst hx; subst ha
        exact ⟨by simpa using World.var?_cell hg0 hv0 0, (hr a0.block a0.off (by simp [MemPlace.row])).1⟩
      | succ i =>
        simp only [List.getElem?_cons_succ] at hx ha
        exact hall i x a hx ha

theorem unlike {al : List Addr} {ps : List MemPlace} (hs : (al.map fun a => MemPlace.cell a.block a.off).Sublist ps) (hn : ps.Nodup) {i j : Nat} (hi : i < al.length) (hj : j < al.length) (hij : i ≠ j) : al[i] ≠ al[j] := by
  have h1 : (al.map fun a => MemPlace.cell a.block a.off).Nodup := hs.nodup hn
  intro e
  rw [List.Nodup, List.pairwise_iff_getElem] at h1
  rcases Nat.lt_or_gt_of_ne hij with h | h
  · exact h1 i j (by simpa using hi) (by simpa using hj) h (by simp [e])
  · exact h1 j i (by simpa using hj) (by simpa using hi) h (by simp [e])
end Er
end Go.Proofs.YtmbphngmaglgmaaGreatDoor

/-
  Of a row's laid variables and the world's shape: the ten errors, the type's handle, the library's bound and the table of tens.
-/
namespace Go.Proofs.YtmbphngmaglgmaaGreatDoor
open Go.ChangeShapes Go.WideShapes Go.ChangeAt Go.RowKit
namespace Ve

theorem etName : Tryz.prog.globalNamed "errors.errorType" = some 10 := by kernel_rfl
/-- The name of the handle's own type, off the listed datum. -/
def rtWord : String := match (Rows.laid_errors_errorType : DataW Unit) with | .iface s _ => s | _ => ""
theorem rtName : (Tryz.prog.cutTypes.find? (·.1 == rtWord)).map (·.2) = some 162 := by kernel_rfl
theorem oneRow : ((List.range 283).filter fun t => Tryz.prog.rowNamed t [101, 114, 114, 111, 114]) = [27] := by kernel_rfl
theorem nTypes : Tryz.prog.types.size = 283 := by kernel_rfl
theorem cellsS : Tryz.prog.cellsOf 272 = 1 := by kernel_rfl
theorem cellsStr : Tryz.prog.cellsOf 9 = 1 := by kernel_rfl
theorem star : "*" ++ "errors.errorString" = "*errors.errorString" := by decide
theorem rowS (u : TypeId) (h : Tryz.prog.typeName? 3 u = some "*errors.errorString") : u = 254 :=
  typeName_ptr_named (nm := "errors.errorString") (by rw [star]; kernel_rfl) (by kernel_rfl) (by decide) u (by rw [star]; exact h)
theorem gPt : (Tryz.prog.globals[(14 : Nat)]?).map (·.type) = some 245 := by kernel_rfl
theorem cellsU : Tryz.prog.cellsOf 202 = 1 := by kernel_rfl
theorem cellsPow : Tryz.prog.cellsOf 245 = 20 := by kernel_rfl

/-- The ten, in the order of package api. -/
def tens : List (String × Nat × List UInt8) :=
  [("pewholder/api.ErrText", 2, [112, 101, 119, 104, 111, 108, 100, 101, 114, 58, 32, 116, 101, 120, 116]),
   ("pewholder/api.ErrBound", 4, [112, 101, 119, 104, 111, 108, 100, 101, 114, 58, 32, 98, 111, 117, 110, 100]),
   ("pewholder/api.ErrShape", 5, [112, 101, 119, 104, 111, 108, 100, 101, 114, 58, 32, 115, 104, 97, 112, 101]),
   ("pewholder/api.ErrMajor", 6, [112, 101, 119, 104, 111, 108, 100, 101, 114, 58, 32, 109, 97, 106, 111, 114]),
   ("pewholder/api.ErrNone", 1, [112, 101, 119, 104, 111, 108, 100, 101, 114, 58, 32, 110, 111, 110, 101]),
   ("pewholder/api.ErrExist", 7, [112, 101, 119, 104, 111, 108, 100, 101, 114, 58, 32, 101, 120, 105, 115, 116]),
   ("pewholder/api.ErrFull", 0, [112, 101, 119, 104, 111, 108, 100, 101, 114, 58, 32, 102, 117, 108, 108]),
   ("pewholder/api.ErrOrder", 3, [112, 101, 119, 104, 111, 108, 100, 101, 114, 58, 32, 111, 114, 100, 101, 114]),
   ("pewholder/api.ErrClash", 8, [112, 101, 119, 104, 111, 108, 100, 101, 114, 58, 32, 99, 108, 97, 115, 104]),
   ("pewholder/api.ErrSum", 9, [112, 101, 119, 104, 111, 108, 100, 101, 114, 58, 32, 115, 117, 109])]
theorem tens_named : ∀ x, x ∈ tens → Tryz.prog.globalNamed x.1 = some x.2.1 ∧ (Tryz.prog.globals[x.2.1]?).map (·.type) = some 27 := by
  have h : (tens.all fun x => Tryz.prog.globalNamed x.1 == some x.2.1 && (Tryz.prog.globals[x.2.1]?).map (·.type) == some 27) = true := by kernel_rfl
  intro x hx
  simpa using List.all_eq_true.1 h x hx

/-- Of the laid ten (whatever is laid behind them) and of the type's handle. -/
theorem sen_of {W : World} (rest : List (String × DataW Unit)) (hl : laidMet Tryz.prog ((tens.map fun x => (x.1, DataW.iface "*errors.errorString" (.ptr (.agg [.lit (.string x.2.2)])))) ++ rest) W)
    (hh : handlesMet Tryz.prog [("errors.errorType", Rows.laid_errors_errorType)] W) : ∃ A, Er.Sen W A := by
  obtain ⟨ps, hl, hnd, hrows⟩ := hl
  obtain ⟨name, u, ty, e1, e2, e3, e4, e5⟩ := hh _ (List.mem_singleton.2 rfl)
  have en : name = [101, 114, 114, 111, 114] := (Option.some.inj e1).symm
  subst en
  obtain rfl := Option.some.inj (rtName.symm.trans e2)
  have hm : ty ∈ (List.range 283).filter fun t => Tryz.prog.rowNamed t [101, 114, 114, 111, 114] := List.mem_filter.2 ⟨List.mem_range.2 (by rw [← nTypes]; exact e3), e4⟩
  rw [oneRow] at hm
  obtain rfl := List.mem_singleton.1 hm
  have hhd : typeHandle Tryz.prog 27 = .pointer (some ⟨17, 27, none⟩) := by kernel_rfl
  rw [hhd] at e5
  have het : W.cell? ⟨10, 0, none⟩ = some (.iface 162 (.agg #[.pointer (some ⟨17, 27, none⟩)])) := by simpa using World.var?_cell etName e5 0
  obtain ⟨al, hlen, hsub, hall⟩ := Er.sens_rest Tryz.underlying27 rowS Tryz.underlying254 Tryz.underlying272 rfl rfl Tryz.underlying9 cellsS cellsStr rest tens ps hl tens_named hrows
  have hten : al.length = 10 := hlen
  refine ⟨fun k => al.getD k ⟨0, 0, none⟩, ?_⟩
  have get : ∀ k, k < 10 → al[k]? = some (al.getD k ⟨0, 0, none⟩) := fun k hk => by
    rw [List.getD_eq_getElem?_getD, List.getElem?_eq_getElem (by omega)]; rfl
  refine ⟨(hall 0 _ _ rfl (get 0 (by omega))).1, (hall 1 _ _ rfl (get 1 (by omega))).1, (hall 2 _ _ rfl (get 2 (by omega))).1, (hall 3 _ _ rfl (get 3 (by omega))).1, (hall 4 _ _ rfl (get 4 (by omega))).1, (hall 5 _ _ rfl (get 5 (by omega))).1, (hall 6 _ _ rfl (get 6 (by omega))).1, (hall 7 _ _ rfl (get 7 (by omega))).1, (hall 8 _ _ rfl (get 8 (by omega))).1, (hall 9 _ _ rfl (get 9 (by omega))).1, het, ?_, ?_⟩
  · intro k hk
    have hx : ∃ x, tens[k]? = some x := ⟨tens[k]'hk, List.getElem?_eq_getElem hk⟩
    obtain ⟨x, hx⟩ := hx
    exact (hall k x _ hx (get k hk)).2
  · intro i j hi hj hij
    have := Er.unlike hsub hnd (i := i) (j := j) (by omega) (by omega) hij
    intro e
    apply this
    have hi' := get i hi
    have hj' := get j hj
    rw [List.getElem?_eq_getElem (by omega)] at hi' hj'
    rw [Option.some.inj hi', Option.some.inj hj']
    exact e
/-- The library's bound, off the world's shape. -/
theorem ml_of {W : World} (hsh : W.ShapedOpen Tryz.prog) : ∃ m, W.cell? ⟨11, 0, none⟩ = some (.int .i64 m) :=
  cell_of_shapedOpen_int (P := Tryz.prog) (g := 11) (t := 3) (zero := #[.int .i64 0]) hsh (of_decide_eq_true (by kernel_rfl)) (by kernel_rfl) rfl (by kernel_rfl) (by kernel_rfl) Tryz.underlying3
end Ve
end Go.Proofs.YtmbphngmaglgmaaGreatDoor
