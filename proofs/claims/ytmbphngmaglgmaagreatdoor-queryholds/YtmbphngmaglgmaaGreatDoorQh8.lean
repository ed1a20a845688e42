/-
  What small and picked of the statements of chapters 10 to 14 answer: the closed fact holds, where query.Pick answers as it is asked to.
-/
import Derived.Test.YtmbphngmaglgmaaGreatDoorQy5
import Derived.Test.YtmbphngmaglgmaaGreatDoorQy7
import Derived.Test.YtmbphngmaglgmaaGreatDoorQy4
import Derived.Test.YtmbphngmaglgmaaGreatDoorQy3
import Derived.Test.YtmbphngmaglgmaaGreatDoorRefF
import Derived.Test.YtmbphngmaglgmaaGreatDoorQy1
namespace Go.Proofs.YtmbphngmaglgmaaGreatDoor
open Go.RowKit Go.Maps
namespace Ve

def qa0 : Bm := (⟨#[97]⟩, ⟨#[118, 49, 46, 48, 46, 48]⟩)
def qa1 : Bm := (⟨#[97]⟩, ⟨#[118, 49, 46, 49, 46, 48]⟩)
def qb0 : Bm := (⟨#[98]⟩, ⟨#[118, 48, 46, 49, 46, 48]⟩)
def qb1 : Bm := (⟨#[98]⟩, ⟨#[118, 48, 46, 50, 46, 48, 45, 114, 99]⟩)
def s3L : List Ent := [(qa0, [], [⟨#[46]⟩, ⟨#[120]⟩], false), (qa1, [qb0], [⟨#[46]⟩], false), (qb0, [], [], false), (qb1, [], [], false)]
def s3Q (g : Nat) : List Raw := [(qa0, .slice none 0 0, .slice (some ⟨g, 0, none⟩) 2 2, false), (qa1, .slice (some ⟨g + 1, 0, none⟩) 1 1, .slice (some ⟨g + 2, 0, none⟩) 1 1, false), (qb0, .slice none 0 0, .slice none 0 0, false), (qb1, .slice none 0 0, .slice none 0 0, false)]
theorem s3_e0 : entE s3L 0 = 0 := by
  show entW none _ = 0
  rw [entW_none (by kernel_rfl), entR_pack (by decide) (by kernel_rfl)]
  exact pk_rise (by decide) (by kernel_rfl) (fun j hj => by
    have : j = 0 := by simp [bl] at hj; omega
    subst this; exact of_decide_eq_true (by kernel_rfl))
theorem s3_e1 : entE s3L 1 = 0 := by
  show entW (some _) _ = 0
  rw [entW_some (by kernel_rfl) (by kernel_rfl), entR_pack (by decide) (by kernel_rfl)]
  exact pk_rise (by decide) (by kernel_rfl) (fun j hj => by simp [bl] at hj)
theorem s3_e2 : entE s3L 2 = 0 := by
  show entW (some _) _ = 0
  rw [entW_some (by kernel_rfl) (by kernel_rfl), entR_pack (by decide) (by kernel_rfl)]
  exact pk_rise (by decide) (by kernel_rfl) (fun j hj => by simp [bl] at hj)
theorem s3_e3 : entE s3L 3 = 0 := by
  show entW (some _) _ = 0
  rw [entW_some (by kernel_rfl) (by kernel_rfl), entR_pack (by decide) (by kernel_rfl)]
  exact pk_rise (by decide) (by kernel_rfl) (fun j hj => by simp [bl] at hj)
theorem s3_chk (g : Nat) : chk (s3Q g) s3L = (0, none) := by
  have h2 : ∀ j, j < 4 → entE s3L j = 0 := fun j hj => by
    rcases (by omega : j = 0 ∨ j = 1 ∨ j = 2 ∨ j = 3) with rfl | rfl | rfl | rfl
    · exact s3_e0
    · exact s3_e1
    · exact s3_e2
    · exact s3_e3
  have h : fstE (entE s3L) s3L.length = none := fstE_none h2
  rw [chk_reqs (by decide) h]
  exact Prod.ext (show codeE (reqE2 (s3Q g) s3L) s3L.length = 0 by kernel_rfl) (show fstE (reqE2 (s3Q g) s3L) s3L.length = none by kernel_rfl)
theorem s3_sh : ∀ e, e ∈ s3L → ShE e := fun e he => by
  have : e = s3L[0] ∨ e = s3L[1] ∨ e = s3L[2] ∨ e = s3L[3] := by simpa [s3L] using he
  rcases this with rfl | rfl | rfl | rfl
  · exact ⟨by decide, by decide, by decide, fun m hm => (by cases hm), by decide, fun x hx => (by
      have : x = ⟨#[46]⟩ ∨ x = ⟨#[120]⟩ := by simpa [s3L] using hx
      rcases this with rfl | rfl <;> decide)⟩
  · exact ⟨by decide, by decide, by decide, fun m hm => (by have : m = qb0 := List.mem_singleton.1 hm
                                                            subst this; exact ⟨by decide, by decide⟩), by decide, fun x hx => (by have : x = ⟨#[46]⟩ := List.mem_singleton.1 hx
                                                                                                                                  subst this; decide)⟩
  · exact ⟨by decide, by decide, by decide, fun m hm => (by cases hm), by decide, fun x hx => (by cases hx)⟩
  · exact ⟨by decide, by decide, by decide, fun m hm => (by cases hm), by decide, fun x hx => (by cases hx)⟩
theorem s3_short (g : Nat) : shortQ (s3Q g) := fun r hr => by
  rcases List.mem_cons.1 hr with rfl | hr
  · exact ⟨show qa0.1.size ≤ 80 by decide, show qa0.2.size ≤ 80 by decide⟩
  rcases List.mem_cons.1 hr with rfl | hr
  · exact ⟨show qa1.1.size ≤ 80 by decide, show qa1.2.size ≤ 80 by decide⟩
  rcases List.mem_cons.1 hr with rfl | hr
  · exact ⟨show qb0.1.size ≤ 80 by decide, show qb0.2.size ≤ 80 by decide⟩
  rw [List.mem_singleton.1 hr]
  exact ⟨show qb1.1.size ≤ 80 by decide, show qb1.2.size ≤ 80 by decide⟩
theorem qa0_v : verErr qa0.2.data.toList = 0 := by kernel_rfl
theorem qa1_v : verErr qa1.2.data.toList = 0 := by kernel_rfl
theorem qb0_v : verErr qb0.2.data.toList = 0 := by kernel_rfl
theorem qb1_v : verErr qb1.2.data.toList = 0 := by kernel_rfl
theorem s3_kept {L X : List ByteArray} (hL : L = X) (hr : rises (bl X)) (hv : ∀ x, x ∈ X → verErr x.data.toList = 0) : Kept L L.length X := by
  subst hL
  refine ⟨hr, fun t => ?_⟩
  rw [List.take_length]
  constructor
  · intro ht
    obtain ⟨x, hx, rfl⟩ := List.mem_map.1 ht
    exact ⟨ht, hv x hx⟩
  · intro h; exact h.1
theorem s3_keptA (g : Nat) : Kept (verL (ofP qa0.1 (s3Q g))) (verL (ofP qa0.1 (s3Q g))).length [qa0.2, qa1.2] := by
  refine s3_kept (by kernel_rfl) (List.pairwise_cons.2 ⟨fun t ht => ?_, List.pairwise_singleton _ _⟩) fun x hx => ?_
  · rw [List.mem_singleton.1 ht]; exact of_decide_eq_true (by kernel_rfl)
  · have : x = qa0.2 ∨ x = qa1.2 := by simpa using hx
    rcases this with h | h
    · rw [h]; exact qa0_v
    · rw [h]; exact qa1_v
theorem s3_keptB (g : Nat) : Kept (verL (ofP qb0.1 (s3Q g))) (verL (ofP qb0.1 (s3Q g))).length [qb0.2, qb1.2] := by
  refine s3_kept (by kernel_rfl) (List.pairwise_cons.2 ⟨fun t ht => ?_, List.pairwise_singleton _ _⟩) fun x hx => ?_
  · rw [List.mem_singleton.1 ht]; exact of_decide_eq_true (by kernel_rfl)
  · have : x = qb0.2 ∨ x = qb1.2 := by simpa using hx
    rcases this with h | h
    · rw [h]; exact qb0_v
    · rw [h]; exact qb1_v
def bV1 : ByteArray := ⟨#[118, 49]⟩
def bGe : ByteArray := ⟨#[62, 61, 118, 48, 46, 49, 46, 48]⟩
theorem bV1_no : ¬ bV1 = bNone := fun e => absurd (congrArg (fun m : ByteArray => m.data) e) (by decide)
theorem bGe_no : ¬ bGe = bNone := fun e => absurd (congrArg (fun m : ByteArray => m.data) e) (by decide)
theorem s3_pA (g : Nat) : pkB (s3Q g) qa0.1 bV1 bE [qa0.2, qa1.2] = qa1.2 := by kernel_rfl
theorem s3_pB (g : Nat) : pkB (s3Q g) qb0.1 bGe bE [qb0.2, qb1.2] = qb0.2 := by kernel_rfl
theorem s3_q1 : qErr bV1 = 0 := by kernel_rfl
theorem s3_q2 : qErr bGe = 0 := by kernel_rfl
theorem s3_n1 : ¬ qa1.2 = bE := fun e => absurd (congrArg (fun m : ByteArray => m.data) e) (by decide)
theorem s3_n2 : ¬ qb0.2 = bE := fun e => absurd (congrArg (fun m : ByteArray => m.data) e) (by decide)
theorem s3_u1 : ¬ bV1 = bUpgrade := fun e => absurd (congrArg (fun m : ByteArray => m.data) e) (by decide)
theorem s3_u2 : ¬ bGe = bUpgrade := fun e => absurd (congrArg (fun m : ByteArray => m.data) e) (by decide)
theorem s3_A (g : Nat) {X : List ByteArray} (hX : Kept (verL (ofP qa0.1 (s3Q g))) (verL (ofP qa0.1 (s3Q g))).length X) : pkF (s3Q g) s3L qa0.1 bV1 bE X = (0, none) ∧ pkV (s3Q g) s3L qa0.1 bV1 bE X = qa1.2 := by
  have e := kept_one hX (s3_keptA g)
  subst e
  have h1 : ¬ qErr bV1 ≠ 0 := by rw [s3_q1]; simp
  have h2 : ¬ (chk (s3Q g) s3L).1 ≠ 0 := by rw [s3_chk]; simp
  rw [pkF_m h1 h2 bV1_no, pkV_m h1 h2 bV1_no, s3_pA, if_neg s3_n1, if_neg s3_n1, if_neg s3_u1]
  exact ⟨rfl, rfl⟩
theorem s3_B (g : Nat) {X : List ByteArray} (hX : Kept (verL (ofP qb0.1 (s3Q g))) (verL (ofP qb0.1 (s3Q g))).length X) : pkF (s3Q g) s3L qb0.1 bGe bE X = (0, none) ∧ pkV (s3Q g) s3L qb0.1 bGe bE X = qb0.2 := by
  have e := kept_one hX (s3_keptB g)
  subst e
  have h1 : ¬ qErr bGe ≠ 0 := by rw [s3_q2]; simp
  have h2 : ¬ (chk (s3Q g) s3L).1 ≠ 0 := by rw [s3_chk]; simp
  rw [pkF_m h1 h2 bGe_no, pkV_m h1 h2 bGe_no, s3_pB, if_neg s3_n2, if_neg s3_n2, if_neg s3_u2]
  exact ⟨rfl, rfl⟩
theorem s3_ixs {W : World} {g q : Nat} (hb : W.heap[q]? = some (.cells #[.string ⟨#[97]⟩, .string ⟨#[118, 49, 46, 48, 46, 48]⟩, .slice none 0 0, .slice (some ⟨g, 0, none⟩) 2 2, .bool false, .string ⟨#[97]⟩, .string ⟨#[118, 49, 46, 49, 46, 48]⟩, .slice (some ⟨g + 1, 0, none⟩) 1 1, .slice (some ⟨g + 2, 0, none⟩) 1 1, .bool false, .string ⟨#[98]⟩, .string ⟨#[118, 48, 46, 49, 46, 48]⟩, .slice none 0 0, .slice none 0 0, .bool false, .string ⟨#[98]⟩, .string ⟨#[118, 48, 46, 50, 46, 48, 45, 114, 99]⟩, .slice none 0 0, .slice none 0 0, .bool false] 56 (0, 0)))
    (hp : W.heap[g]? = some (.cells #[.string ⟨#[46]⟩, .string ⟨#[120]⟩] 9 (0, 0))) (hg : W.heap[g + 1]? = some (.cells #[.string ⟨#[98]⟩, .string ⟨#[118, 48, 46, 49, 46, 48]⟩] 53 (0, 0))) (hd : W.heap[g + 2]? = some (.cells #[.string ⟨#[46]⟩] 9 (0, 0))) :
    Ixs W (.slice (some ⟨q, 0, none⟩) 4 4) (s3Q g) s3L := by
  have msn : MsAt W (.slice none 0 0) [] := ⟨none, 0, rfl, Nat.le_refl _, fun h => absurd rfl h⟩
  have txn : TxAt W (.slice none 0 0) [] := ⟨none, 0, rfl, Nat.le_refl _, fun h => absurd rfl h⟩
  have msb : MsAt W (.slice (some ⟨g + 1, 0, none⟩) 1 1) [qb0] := ⟨some ⟨g + 1, 0, none⟩, 1, rfl, Nat.le_refl _, fun _ => ⟨g + 1, 0, rfl, fun j hj => by
    have : j = 0 := by simp at hj; exact hj
    subst this
    refine ⟨?_, ?_⟩ <;> (rw [Lib.cell_of_heap hg]; rfl)⟩⟩
  have tx1 : TxAt W (.slice (some ⟨g, 0, none⟩) 2 2) [⟨#[46]⟩, ⟨#[120]⟩] := ⟨some ⟨g, 0, none⟩, 2, rfl, Nat.le_refl _, fun _ => ⟨g, 0, rfl, fun j hj => by
    have hj2 : j < 2 := hj
    rcases (by omega : j = 0 ∨ j = 1) with rfl | rfl
    · rw [Lib.cell_of_heap hp]; rfl
    · rw [Lib.cell_of_heap hp]; rfl⟩⟩
  have tx2 : TxAt W (.slice (some ⟨g + 2, 0, none⟩) 1 1) [⟨#[46]⟩] := ⟨some ⟨g + 2, 0, none⟩, 1, rfl, Nat.le_refl _, fun _ => ⟨g + 2, 0, rfl, fun j hj => by
    have : j = 0 := by simp at hj; exact hj
    subst this
    rw [Lib.cell_of_heap hd]; rfl⟩⟩
  refine ⟨⟨some ⟨q, 0, none⟩, 4, rfl, Nat.le_refl _, fun r hr => ?_, fun _ => ⟨q, 0, rfl, fun j hj => ?_⟩⟩, rfl, fun j h1 h2 => ?_⟩
  · rcases List.mem_cons.1 hr with rfl | hr
    · exact ⟨⟨none, 0, 0, rfl⟩, _, _, _, rfl⟩
    rcases List.mem_cons.1 hr with rfl | hr
    · exact ⟨⟨_, _, _, rfl⟩, _, _, _, rfl⟩
    rcases List.mem_cons.1 hr with rfl | hr
    · exact ⟨⟨none, 0, 0, rfl⟩, none, 0, 0, rfl⟩
    rw [List.mem_singleton.1 hr]
    exact ⟨⟨none, 0, 0, rfl⟩, none, 0, 0, rfl⟩
  · have hj2 : j < 4 := hj
    rcases (by omega : j = 0 ∨ j = 1 ∨ j = 2 ∨ j = 3) with rfl | rfl | rfl | rfl
    · refine ⟨?_, ?_, ?_, ?_, ?_⟩ <;> (rw [Lib.cell_of_heap hb]; rfl)
    · refine ⟨?_, ?_, ?_, ?_, ?_⟩ <;> (rw [Lib.cell_of_heap hb]; rfl)
    · refine ⟨?_, ?_, ?_, ?_, ?_⟩ <;> (rw [Lib.cell_of_heap hb]; rfl)
    · refine ⟨?_, ?_, ?_, ?_, ?_⟩ <;> (rw [Lib.cell_of_heap hb]; rfl)
  · have hj2 : j < 4 := h1
    rcases (by omega : j = 0 ∨ j = 1 ∨ j = 2 ∨ j = 3) with rfl | rfl | rfl | rfl
    · exact ⟨rfl, msn, tx1, rfl⟩
    · exact ⟨rfl, msb, tx2, rfl⟩
    · exact ⟨rfl, msn, txn, rfl⟩
    · exact ⟨rfl, msn, txn, rfl⟩
set_option maxHeartbeats 2000000 in
/-- pewholderlaw3.small. -/
theorem small3_any (w : World) : Calls Tryz.prog 22 #[] w fun e w' => ∃ g q, e = .returned (.slice (some ⟨q, 0, none⟩) 4 4) ∧ Ixs w' (.slice (some ⟨q, 0, none⟩) 4 4) (s3Q g) s3L ∧ Below w.heap.size w w' := by
  have a1 := heap_new w (.cells #[.string ⟨#[46]⟩, .string ⟨#[120]⟩] 9)
  have z1 : (w.alloc (.cells #[.string ⟨#[46]⟩, .string ⟨#[120]⟩] 9)).heap.size = w.heap.size + 1 := by simp
  have b1 := (Below.refl w.heap.size w).alloc (Nat.le_refl _) (.cells #[.string ⟨#[46]⟩, .string ⟨#[120]⟩] 9)
  obtain ⟨w1, hw1⟩ : ∃ w1, w.alloc (.cells #[.string ⟨#[46]⟩, .string ⟨#[120]⟩] 9) = w1 := ⟨_, rfl⟩
  rw [hw1] at a1 z1 b1
  have a2 := heap_new w1 (.cells #[.string ⟨#[98]⟩, .string ⟨#[118, 48, 46, 49, 46, 48]⟩] 53)
  have c1 := heap_old w1 (.cells #[.string ⟨#[98]⟩, .string ⟨#[118, 48, 46, 49, 46, 48]⟩] 53) a1
  have b2 := b1.alloc b1.size (.cells #[.string ⟨#[98]⟩, .string ⟨#[118, 48, 46, 49, 46, 48]⟩] 53)
  have z2 : (w1.alloc (.cells #[.string ⟨#[98]⟩, .string ⟨#[118, 48, 46, 49, 46, 48]⟩] 53)).heap.size = w.heap.size + 2 := by simp [z1]
  rw [z1] at a2
  obtain ⟨w2, hw2⟩ : ∃ w2, w1.alloc (.cells #[.string ⟨#[98]⟩, .string ⟨#[118, 48, 46, 49, 46, 48]⟩] 53) = w2 := ⟨_, rfl⟩
  rw [hw2] at a2 c1 b2 z2
  have a3 := heap_new w2 (.cells #[.string ⟨#[46]⟩] 9)
  have c2 := heap_old w2 (.cells #[.string ⟨#[46]⟩] 9) c1
  have d2 := heap_old w2 (.cells #[.string ⟨#[46]⟩] 9) a2
  have b3 := b2.alloc b2.size (.cells #[.string ⟨#[46]⟩] 9)
  have z3 : (w2.alloc (.cells #[.string ⟨#[46]⟩] 9)).heap.size = w.heap.size + 3 := by simp [z2]
  rw [z2] at a3
  obtain ⟨w3, hw3⟩ : ∃ w3, w2.alloc (.cells #[.string ⟨#[46]⟩] 9) = w3 := ⟨_, rfl⟩
  rw [hw3] at a3 c2 d2 b3 z3
  have a4 := heap_new w3 (.cells #[.string ⟨#[97]⟩, .string ⟨#[118, 49, 46, 48, 46, 48]⟩, .slice none 0 0, .slice (some ⟨w.heap.size, 0, none⟩) 2 2, .bool false, .string ⟨#[97]⟩, .string ⟨#[118, 49, 46, 49, 46, 48]⟩, .slice (some ⟨w.heap.size + 1, 0, none⟩) 1 1, .slice (some ⟨w.heap.size + 2, 0, none⟩) 1 1, .bool false, .string ⟨#[98]⟩, .string ⟨#[118, 48, 46, 49, 46, 48]⟩, .slice none 0 0, .slice none 0 0, .bool false, .string ⟨#[98]⟩, .string ⟨#[118, 48, 46, 50, 46, 48, 45, 114, 99]⟩, .slice none 0 0, .slice none 0 0, .bool false] 56)
  have c3 := heap_old w3 (.cells #[.string ⟨#[97]⟩, .string ⟨#[118, 49, 46, 48, 46, 48]⟩, .slice none 0 0, .slice (some ⟨w.heap.size, 0, none⟩) 2 2, .bool false, .string ⟨#[97]⟩, .string ⟨#[118, 49, 46, 49, 46, 48]⟩, .slice (some ⟨w.heap.size + 1, 0, none⟩) 1 1, .slice (some ⟨w.heap.size + 2, 0, none⟩) 1 1, .bool false, .string ⟨#[98]⟩, .string ⟨#[118, 48, 46, 49, 46, 48]⟩, .slice none 0 0, .slice none 0 0, .bool false, .string ⟨#[98]⟩, .string ⟨#[118, 48, 46, 50, 46, 48, 45, 114, 99]⟩, .slice none 0 0, .slice none 0 0, .bool false] 56) c2
  have d3 := heap_old w3 (.cells #[.string ⟨#[97]⟩, .string ⟨#[118, 49, 46, 48, 46, 48]⟩, .slice none 0 0, .slice (some ⟨w.heap.size, 0, none⟩) 2 2, .bool false, .string ⟨#[97]⟩, .string ⟨#[118, 49, 46, 49, 46, 48]⟩, .slice (some ⟨w.heap.size + 1, 0, none⟩) 1 1, .slice (some ⟨w.heap.size + 2, 0, none⟩) 1 1, .bool false, .string ⟨#[98]⟩, .string ⟨#[118, 48, 46, 49, 46, 48]⟩, .slice none 0 0, .slice none 0 0, .bool false, .string ⟨#[98]⟩, .string ⟨#[118, 48, 46, 50, 46, 48, 45, 114, 99]⟩, .slice none 0 0, .slice none 0 0, .bool false] 56) d2
  have e3 := heap_old w3 (.cells #[.string ⟨#[97]⟩, .string ⟨#[118, 49, 46, 48, 46, 48]⟩, .slice none 0 0, .slice (some ⟨w.heap.size, 0, none⟩) 2 2, .bool false, .string ⟨#[97]⟩, .string ⟨#[118, 49, 46, 49, 46, 48]⟩, .slice (some ⟨w.heap.size + 1, 0, none⟩) 1 1, .slice (some ⟨w.heap.size + 2, 0, none⟩) 1 1, .bool false, .string ⟨#[98]⟩, .string ⟨#[118, 48, 46, 49, 46, 48]⟩, .slice none 0 0, .slice none 0 0, .bool false, .string ⟨#[98]⟩, .string ⟨#[118, 48, 46, 50, 46, 48, 45, 114, 99]⟩, .slice none 0 0, .slice none 0 0, .bool false] 56) a3
  have b4 := b3.alloc b3.size (.cells #[.string ⟨#[97]⟩, .string ⟨#[118, 49, 46, 48, 46, 48]⟩, .slice none 0 0, .slice (some ⟨w.heap.size, 0, none⟩) 2 2, .bool false, .string ⟨#[97]⟩, .string ⟨#[118, 49, 46, 49, 46, 48]⟩, .slice (some ⟨w.heap.size + 1, 0, none⟩) 1 1, .slice (some ⟨w.heap.size + 2, 0, none⟩) 1 1, .bool false, .string ⟨#[98]⟩, .string ⟨#[118, 48, 46, 49, 46, 48]⟩, .slice none 0 0, .slice none 0 0, .bool false, .string ⟨#[98]⟩, .string ⟨#[118, 48, 46, 50, 46, 48, 45, 114, 99]⟩, .slice none 0 0, .slice none 0 0, .bool false] 56)
  rw [z3] at a4
  have HX := hid (s3_ixs a4 c3 d3 e3)
  have HB := hid b4
  subst hw3 hw2 hw1
  clear a1 a2 a3 a4 b1 b2 b3 b4 c1 c2 c3 d2 d3 e3
  go_enter Tryz.func22, Tryz.ntmps22
  go_wp2_with fail
  go_ret
  exact ⟨w.heap.size, w.heap.size + 3, rfl, HX.out, HB.out⟩
set_option maxRecDepth 100000 in
set_option maxHeartbeats 4000000 in
/-- pewholderlaw3.picked. -/
theorem picked_any {T : World → Prop} (PC : PickC T) (KT : KeepT T) (A : Nat → Addr) (m : Int) (w : World) (S : Te w A m) (ht : T w) : Calls Tryz.prog 6 #[] w fun e w' => e = .returned (.bool true) ∧ Below w.heap.size w w' := by
  have HSM := hid small3_any
  have HS := hid (fun W (h : Below w.heap.size w W) => S.below h)
  have HPC := hid PC
  have HT := hid (fun W (h : Below w.heap.size w W) => KT w W ht h)
  clear S PC KT ht
  go_enter Tryz.func6, Tryz.ntmps6
  go_wp2_with fail
  refine (HSM.out w).mono ?_
  rintro e w1 ⟨g, q, rfl, hix, hb⟩
  have HB1 := hid hb
  have HP1 := hid (HPC.out (s3Q g) s3L ⟨#[97]⟩ ⟨#[118, 49]⟩ ⟨#[]⟩ _ A m w1 (by decide) s3_sh (s3_short g) (by decide) (by decide) (by decide) (HS.out _ hb) (HT.out _ hb) hix)
  clear hix hb
  go_wp2_with fail
  refine HP1.out.mono ?_
  rintro e w2 ⟨X, x, hK, rfl, he, hb⟩
  obtain ⟨e1, e2⟩ := s3_A g (hK ⟨s3_q1, by rw [s3_chk], bV1_no⟩)
  have e1' : pkF (s3Q g) s3L ⟨#[97]⟩ ⟨#[118, 49]⟩ ⟨#[]⟩ X = (0, none) := e1
  have e2' : pkV (s3Q g) s3L ⟨#[97]⟩ ⟨#[118, 49]⟩ ⟨#[]⟩ X = ⟨#[118, 49, 46, 49, 46, 48]⟩ := e2
  rw [e1'] at he
  have he : x = .nilIface := he
  subst he
  rw [e2']
  have HB2 := hid (HB1.out.trans (hb.mono HB1.out.size))
  clear hK hb e1 e2 e1' e2' HP1
  go_wp2_with fail
  refine (HSM.out w2).mono ?_
  rintro e w3 ⟨g3, q3, rfl, hix, hb⟩
  have HB3 := hid (HB2.out.trans (hb.mono HB2.out.size))
  have HP3 := hid (HPC.out (s3Q g3) s3L ⟨#[98]⟩ ⟨#[62, 61, 118, 48, 46, 49, 46, 48]⟩ ⟨#[]⟩ _ A m w3 (by decide) s3_sh (s3_short g3) (by decide) (by decide) (by decide) (HS.out _ HB3.out) (HT.out _ HB3.out) hix)
  clear hix hb
  go_wp2_with fail
  refine HP3.out.mono ?_
  rintro e w4 ⟨X, x, hK, rfl, he, hb⟩
  obtain ⟨e1, e2⟩ := s3_B g3 (hK ⟨s3_q2, by rw [s3_chk], bGe_no⟩)
  have e1' : pkF (s3Q g3) s3L ⟨#[98]⟩ ⟨#[62, 61, 118, 48, 46, 49, 46, 48]⟩ ⟨#[]⟩ X = (0, none) := e1
  have e2' : pkV (s3Q g3) s3L ⟨#[98]⟩ ⟨#[62, 61, 118, 48, 46, 49, 46, 48]⟩ ⟨#[]⟩ X = ⟨#[118, 48, 46, 49, 46, 48]⟩ := e2
  rw [e1'] at he
  have he : x = .nilIface := he
  subst he
  rw [e2']
  have HB4 := hid (HB3.out.trans (hb.mono HB3.out.size))
  clear hK hb e1 e2 e1' e2' HP3
  go_wp2_with fail
  go_ret
  exact ⟨rfl, HB4.out⟩
end Ve
end Go.Proofs.YtmbphngmaglgmaaGreatDoor

/-
  pewholderlaw3.QueryPicks walked: what Check and Pick of package query say is what the document says, where they answer as they are asked to.
-/
namespace Go.Proofs.YtmbphngmaglgmaaGreatDoor
open Go.RowKit Go.Maps
namespace Ve

theorem pkF_le (Q : List Raw) (L : List Ent) (t q now : ByteArray) (X : List ByteArray) : (pkF Q L t q now X).1 ≤ 10 := by
  unfold pkF
  repeat' split
  · exact qErr_le _
  · exact chk_le _ _
  all_goals decide
theorem okI_short {w : World} {v : Value} {Q : List Raw} {L : List Ent} (I : Ixs w v Q L) (h : okI L = true) : shortQ Q := fun r hr => by
  obtain ⟨j, hj, rfl⟩ := List.getElem_of_mem hr
  have hl : j < L.length := by rw [← I.ln]; exact hj
  have hm := (I.ok j hj hl).m
  have := (okI_iff h).2 L[j] (List.getElem_mem hl)
  rw [hm]
  exact ⟨by have := this.1; omega, by have := this.2.1; omega⟩
set_option maxRecDepth 100000 in
set_option maxHeartbeats 4000000 in
theorem qp_main {T : World → Prop} (CC : CheckC) (PC : PickC T) (KT : KeepT T) (Q0 : List Raw) (L : List Ent) (t q now : ByteArray) (v : Value) (A : Nat → Addr) (m : Int) (w : World) (S : Te w A m) (hT : T w) (N : Er.Sen w A) (I : Ixs w v Q0 L) (em : EmI Q0 L) (hok : okI L = true) (ht : t.size ≤ 70) (hq : q.size ≤ 60) (hnow : now.size ≤ 60) :
    Calls Tryz.prog 4 #[v, .string t, .string q, .string now] w fun e w' => e = .returned (.bool true) ∧ Below w.heap.size w w' := by
  obtain ⟨a0, c0, hv0, -⟩ := id I.es
  subst hv0
  have hn101 : L.length ≤ 101 := by rcases (okI_iff hok).1 with h | h <;> omega
  have g1 : ¬ (70 : Int) < (t.size : Int) := by omega
  have g2 : ¬ (60 : Int) < (q.size : Int) := by omega
  have g3 : ¬ (60 : Int) < (now.size : Int) := by omega
  have HIN := hid (picked_any PC KT A m w S hT)
  have HLO := hid (fun W (h : Below w.heap.size w W) => longI_any Q0 L _ W (I.below h))
  rw [if_pos hok] at HLO
  have HOW := hid (fun W (h : Below w.heap.size w W) => ownI_any Q0 L _ W (by omega) (I.below h) em (okI_fits hok))
  have HCC := hid (fun W (h : Below w.heap.size w W) => CC q A m W (by omega) (S.below h))
  have HQE := hid (fun W => rqerr_any q W (by omega))
  have HCD := hid (fun W (h : Below w.heap.size w W) => coded3_any A (qErr q) W (N.below h) (qErr_le q))
  have HPO := hid (fun W (h : Below w.heap.size w W) => rpick_all Q0 L t q now _ W (by omega) (by omega) (by omega) (okI_sh hok) (okI_short I hok) (I.below h))
  have HPP := hid (fun Q u W (h : Below w.heap.size w W) (J : Ixs W u Q L) => PC Q L t q now u A m W (by omega) (okI_sh hok) (okI_short J hok) (by omega) (by omega) (by omega) (S.below h) (KT w W hT h) J)
  have HFA := hid (fun r W y (h : Below w.heap.size w W) (hr : r.1 ≤ 10) (he : ErrAt W A y r.1 r.2) => faulted3_any A y r W (N.below h) he hr)
  have HK0 := hid (keys_of I)
  obtain ⟨ke, hke⟩ : ∃ ke, errA A (qErr q) = ke := ⟨_, rfl⟩
  rw [hke] at HCC HCD
  clear S N I em hok CC PC hke KT hT
  go_enter Tryz.func4, Tryz.ntmps4
  go_wp2_with fail
  refine HIN.out.mono ?_
  rintro e w1 ⟨rfl, hb⟩
  have HB1 := hid hb
  clear hb
  go_wp2_with fail
  refine (HLO.out w1 HB1.out).mono ?_
  rintro e w2 ⟨rfl, hb⟩
  have HB2 := hid (HB1.out.trans (hb.mono HB1.out.size))
  clear hb
  go_wp2_with fail
  refine (HCC.out w2 HB2.out).mono ?_
  rintro e w3 ⟨rfl, hb⟩
  have HB3 := hid (HB2.out.trans (hb.mono HB2.out.size))
  clear hb
  go_wp2_with fail
  refine (HQE.out w3).mono ?_
  rintro e w4 ⟨rfl, hb⟩
  have HB4 := hid (HB3.out.trans (hb.mono HB3.out.size))
  clear hb
  go_wp2_with fail
  refine (HCD.out w4 HB4.out).mono ?_
  rintro e w5 ⟨rfl, hb⟩
  have HB5 := hid (HB4.out.trans (hb.mono HB4.out.size))
  clear hb HIN HLO HCC HQE HCD HB1 HB2 HB3 HB4
  go_wp2_with fail
  refine (HOW.out w5 HB5.out).mono ?_
  rintro e w6 ⟨ou, Q, rfl, hO, hb⟩
  have HB6 := hid (HB5.out.trans (hb.mono HB5.out.size))
  have HKQ := hid ((keys_of hO.ixs).trans HK0.out.symm)
  have HP6 := hid (HPP.out Q ou w6 HB6.out hO.ixs)
  obtain ⟨oa, oc, hou, -⟩ := id hO.ixs.es
  subst hou
  clear hb hO HOW HPP HK0
  go_wp2_with fail
  refine HP6.out.mono ?_
  rintro e w7 ⟨X, y, hK, rfl, he, hb⟩
  rw [(pk_same HKQ.out).1] at he
  rw [(pk_same HKQ.out).2]
  have HB7 := hid (HB6.out.trans (hb.mono HB6.out.size))
  have HE7 := hid he
  have HK7 := hid hK
  clear hb he hK HP6
  obtain ⟨P1, hP1⟩ : ∃ P1, pkV Q0 L t q now X = P1 := ⟨_, rfl⟩
  have HV1 := hid hP1
  rw [hP1]
  clear hP1
  go_wp2_with fail
  refine (HPO.out w7 HB7.out).mono ?_
  rintro e w8 ⟨X', hK', rfl, hb⟩
  have HXX := hid (pk_any (Q := Q0) (L := L) (t := t) (q := q) (now := now) (X := X') (X' := X) fun hl => by
    have h1 := hK' hl
    have h2 := HK7.out (by unfold look at hl ⊢; rw [chk_same (key_mod HKQ.out)]; exact hl)
    rw [verO_same HKQ.out] at h2
    exact kept_one h1 h2)
  rw [HXX.out.1, HXX.out.2, HV1.out]
  have HB8 := hid (HB7.out.trans (hb.mono HB7.out.size))
  have HE8 := hid (HE7.out.below hb)
  have HLE := hid (pkF_le Q0 L t q now X)
  have HF8 := hid (fun r W (h : Below w.heap.size w W) (hr : r.1 ≤ 10) (he : ErrAt W A y r.1 r.2) => HFA.out r W y h hr he)
  clear hb hK' HXX HK7 HV1 HFA
  obtain ⟨f1, hf1⟩ : ∃ f1, pkF Q0 L t q now X = f1 := ⟨_, rfl⟩
  rw [hf1] at HE8 HLE ⊢
  clear hf1 HE7
  obtain ⟨b1, b2⟩ := f1
  have HF9 := hid (fun W (h : Below w.heap.size w W) (he : ErrAt W A y b1 b2) => HF8.out (b1, b2) W h HLE.out he)
  unfold faultV at HF9 ⊢
  simp only at HF9 HE8 ⊢
  have HA9 := hid ((Below.refl w8.heap.size w8).alloc (Nat.le_refl _) (.cells #[.int .i64 (b1 : Nat), .int .i64 (atOf b2)] 40))
  have HB9 := hid (HB8.out.trans (HA9.out.mono HB8.out.size))
  have HE9 := hid (HE8.out.below HA9.out)
  have s1 := str_refl P1
  generalize ((b1 : Nat) : Int) = F1 at *
  generalize atOf b2 = F2 at *
  go_wp2_with fail
  generalize w8.alloc (.cells #[.int .i64 F1, .int .i64 F2] 40) = w9 at *
  refine (HF9.out w9 HB9.out HE9.out).mono ?_
  rintro e w10 ⟨rfl, hb⟩
  have HBe := hid (HB9.out.trans (hb.mono HB9.out.size))
  clear hb
  go_wp2_with fail
  go_ret
  exact ⟨rfl, HBe.out⟩
set_option maxRecDepth 100000 in
set_option maxHeartbeats 2000000 in
theorem qp_long {T : World → Prop} (PC : PickC T) (KT : KeepT T) (Q0 : List Raw) (L : List Ent) (t q now : ByteArray) (v : Value) (A : Nat → Addr) (m : Int) (w : World) (S : Te w A m) (hT : T w) (I : Ixs w v Q0 L) (h : okI L = false ∨ (okI L = true ∧ (70 < t.size ∨ (¬ 70 < t.size ∧ (60 < q.size ∨ (¬ 60 < q.size ∧ 60 < now.size)))))) :
    Calls Tryz.prog 4 #[v, .string t, .string q, .string now] w fun e w' => e = .returned (.bool true) ∧ Below w.heap.size w w' := by
  obtain ⟨a0, c0, hv0, -⟩ := id I.es
  subst hv0
  have HIN := hid (picked_any PC KT A m w S hT)
  have HLO := hid (fun W (h : Below w.heap.size w W) => longI_any Q0 L _ W (I.below h))
  rcases h with h | ⟨h, h1 | ⟨h1, h2 | ⟨h2, h3⟩⟩⟩
  · rw [h] at HLO
    clear S I h PC KT hT
    go_enter Tryz.func4, Tryz.ntmps4
    go_wp2_with fail
    refine HIN.out.mono ?_
    rintro e w1 ⟨rfl, hb⟩
    have HB1 := hid hb
    clear hb
    go_wp2_with fail
    refine (HLO.out w1 HB1.out).mono ?_
    rintro e w2 ⟨rfl, hb⟩
    have HB2 := hid (HB1.out.trans (hb.mono HB1.out.size))
    clear hb
    go_wp2_with fail
    go_ret
    exact ⟨rfl, HB2.out⟩
  · rw [if_pos h] at HLO
    have g1 : (70 : Int) < (t.size : Int) := by omega
    clear S I h PC KT hT
    go_enter Tryz.func4, Tryz.ntmps4
    go_wp2_with fail
    refine HIN.out.mono ?_
    rintro e w1 ⟨rfl, hb⟩
    have HB1 := hid hb
    clear hb
    go_wp2_with fail
    refine (HLO.out w1 HB1.out).mono ?_
    rintro e w2 ⟨rfl, hb⟩
    have HB2 := hid (HB1.out.trans (hb.mono HB1.out.size))
    clear hb
    go_wp2_with fail
    go_ret
    exact ⟨rfl, HB2.out⟩
  · rw [if_pos h] at HLO
    have g1 : ¬ (70 : Int) < (t.size : Int) := by omega
    have g2 : (60 : Int) < (q.size : Int) := by omega
    clear S I h PC KT hT
    go_enter Tryz.func4, Tryz.ntmps4
    go_wp2_with fail
    refine HIN.out.mono ?_
    rintro e w1 ⟨rfl, hb⟩
    have HB1 := hid hb
    clear hb
    go_wp2_with fail
    refine (HLO.out w1 HB1.out).mono ?_
    rintro e w2 ⟨rfl, hb⟩
    have HB2 := hid (HB1.out.trans (hb.mono HB1.out.size))
    clear hb
    go_wp2_with fail
    go_ret
    exact ⟨rfl, HB2.out⟩
  · rw [if_pos h] at HLO
    have g1 : ¬ (70 : Int) < (t.size : Int) := by omega
    have g2 : ¬ (60 : Int) < (q.size : Int) := by omega
    have g3 : (60 : Int) < (now.size : Int) := by omega
    clear S I h PC KT hT
    go_enter Tryz.func4, Tryz.ntmps4
    go_wp2_with fail
    refine HIN.out.mono ?_
    rintro e w1 ⟨rfl, hb⟩
    have HB1 := hid hb
    clear hb
    go_wp2_with fail
    refine (HLO.out w1 HB1.out).mono ?_
    rintro e w2 ⟨rfl, hb⟩
    have HB2 := hid (HB1.out.trans (hb.mono HB1.out.size))
    clear hb
    go_wp2_with fail
    go_ret
    exact ⟨rfl, HB2.out⟩
theorem queryPicks_any {T : World → Prop} (CC : CheckC) (PC : PickC T) (KT : KeepT T) (Q0 : List Raw) (L : List Ent) (t q now : ByteArray) (v : Value) (A : Nat → Addr) (m : Int) (w : World) (S : Te w A m) (hT : T w) (N : Er.Sen w A) (I : Ixs w v Q0 L) (em : EmI Q0 L) :
    Calls Tryz.prog 4 #[v, .string t, .string q, .string now] w fun e w' => e = .returned (.bool true) ∧ Below w.heap.size w w' := by
  cases hok : okI L with
  | false => exact qp_long PC KT Q0 L t q now v A m w S hT I (Or.inl hok)
  | true =>
    by_cases h1 : 70 < t.size
    · exact qp_long PC KT Q0 L t q now v A m w S hT I (Or.inr ⟨hok, Or.inl h1⟩)
    by_cases h2 : 60 < q.size
    · exact qp_long PC KT Q0 L t q now v A m w S hT I (Or.inr ⟨hok, Or.inr ⟨h1, Or.inl h2⟩⟩)
    by_cases h3 : 60 < now.size
    · exact qp_long PC KT Q0 L t q now v A m w S hT I (Or.inr ⟨hok, Or.inr ⟨h1, Or.inr ⟨h2, h3⟩⟩⟩)
    exact qp_main CC PC KT Q0 L t q now v A m w S hT N I em hok (by omega) (by omega) (by omega)
end Ve
end Go.Proofs.YtmbphngmaglgmaaGreatDoor

/-
  Queries that a version makes, plain: signs ahead of it; where something is picked, and what it is like.
-/
namespace Go.Proofs.YtmbphngmaglgmaaGreatDoor
open Go.RowKit Go.Maps
namespace Ve

theorem app_list (a b : ByteArray) : (a ++ b).data.toList = a.data.toList ++ b.data.toList := by simp
theorem app_size (a b : ByteArray) : (a ++ b).size = a.size + b.size := by simp
theorem ver_head {v : ByteArray} (h : verErr v.data.toList = 0) : ∃ r, v.data.toList = 118 :: r := by
  unfold verErr at h
  have hm : marked v.data.toList = true := by
    cases e : marked v.data.toList with
    | true => rfl
    | false => rw [if_pos (Or.inl e)] at h; cases h
  cases hl : v.data.toList with
  | nil => rw [hl] at hm; cases hm
  | cons b r =>
    rw [hl] at hm
    unfold marked at hm
    simp at hm
    exact ⟨r, by rw [hm]⟩
theorem ext_app (a b : ByteArray) : (a ++ b).extract a.size (a ++ b).size = b := by
  apply str_ext
  rw [ext_drop, app_list]
  have : a.size = a.data.toList.length := by simp
  rw [this, List.drop_left]
theorem begB_list {q h : ByteArray} {l : List UInt8} (e : q.data.toList = l) : begB q h = h.data.toList.isPrefixOf l := by unfold begB Lib.hasPrefix; rw [e]
theorem sg_lt {v : ByteArray} (h : verErr v.data.toList = 0) : sgn (⟨#[60]⟩ ++ v) = (sLt, v) := by
  obtain ⟨r, hr⟩ := ver_head h
  have e : ((⟨#[60]⟩ : ByteArray) ++ v).data.toList = 60 :: 118 :: r := by rw [app_list, hr]; rfl
  have := sgn_2 (q := ⟨#[60]⟩ ++ v) (by rw [begB_list e]; rfl) (by rw [begB_list e]; rfl) (by rw [begB_list e]; rfl)
  rw [this]
  exact Prod.ext rfl (ext_app ⟨#[60]⟩ v)
theorem sg_gt {v : ByteArray} (h : verErr v.data.toList = 0) : sgn (⟨#[62]⟩ ++ v) = (sGt, v) := by
  obtain ⟨r, hr⟩ := ver_head h
  have e : ((⟨#[62]⟩ : ByteArray) ++ v).data.toList = 62 :: 118 :: r := by rw [app_list, hr]; rfl
  have := sgn_3 (q := ⟨#[62]⟩ ++ v) (by rw [begB_list e]; rfl) (by rw [begB_list e]; rfl) (by rw [begB_list e]; rfl) (by rw [begB_list e]; rfl)
  rw [this]
  exact Prod.ext rfl (ext_app ⟨#[62]⟩ v)
theorem sg_le {v : ByteArray} (h : verErr v.data.toList = 0) : sgn (⟨#[60, 61]⟩ ++ v) = (sLe, v) := by
  obtain ⟨r, hr⟩ := ver_head h
  have e : ((⟨#[60, 61]⟩ : ByteArray) ++ v).data.toList = 60 :: 61 :: 118 :: r := by rw [app_list, hr]; rfl
  have := sgn_0 (q := ⟨#[60, 61]⟩ ++ v) (by rw [begB_list e]; rfl)
  rw [this]
  exact Prod.ext rfl (ext_app ⟨#[60, 61]⟩ v)
theorem sg_ge {v : ByteArray} (h : verErr v.data.toList = 0) : sgn (⟨#[62, 61]⟩ ++ v) = (sGe, v) := by
  obtain ⟨r, hr⟩ := ver_head h
  have e : ((⟨#[62, 61]⟩ : ByteArray) ++ v).data.toList = 62 :: 61 :: 118 :: r := by rw [app_list, hr]; rfl
  have := sgn_1 (q := ⟨#[62, 61]⟩ ++ v) (by rw [begB_list e]; rfl) (by rw [begB_list e]; rfl)
  rw [this]
  exact Prod.ext rfl (ext_app ⟨#[62, 61]⟩ v)
theorem sg_v {v : ByteArray} (h : verErr v.data.toList = 0) : sgn v = (bE, v) := by
  obtain ⟨r, hr⟩ := ver_head h
  exact sgn_4 (by rw [begB_list hr]; rfl) (by rw [begB_list hr]; rfl) (by rw [begB_list hr]; rfl) (by rw [begB_list hr]; rfl)
theorem wd_no {q : ByteArray} {c : UInt8} {r : List UInt8} (e : q.data.toList = c :: r) (hc : c = 60 ∨ c = 62 ∨ c = 118) : isWd q = false := by
  have go : ∀ (b : ByteArray) (d : UInt8) (s : List UInt8), b.data.toList = d :: s → (d ≠ 60 ∧ d ≠ 62 ∧ d ≠ 118) → decide (q = b) = false := fun b d s hb hd => decide_eq_false fun h => by
    subst h
    rw [e] at hb
    injection hb with h1 h2
    subst h1
    rcases hc with h | h | h
    · exact hd.1 h
    · exact hd.2.1 h
    · exact hd.2.2 h
  unfold isWd
  rw [go bLatest 108 _ rfl (by decide), go bUpgrade 117 _ rfl (by decide), go bPatch 112 _ rfl (by decide), go bNone 110 _ rfl (by decide)]
  rfl
/-- A query that a version makes: no word; right; its sign. -/
structure VerQ (q sg v : ByteArray) : Prop where
  wd : isWd q = false
  sg : sgn q = (sg, v)
  er : qErr q = 0
  no : ¬ q = bNone
  up : ¬ q = bUpgrade
theorem verQ_of {q sg v : ByteArray} {c : UInt8} {r : List UInt8} (e : q.data.toList = c :: r) (hc : c = 60 ∨ c = 62 ∨ c = 118) (hs : sgn q = (sg, v)) (h : verErr v.data.toList = 0) : VerQ q sg v := by
  have hw := wd_no e hc
  have h2 := congrArg Prod.snd hs
  simp only at h2
  refine ⟨hw, hs, ?_, fun h => ?_, fun h => ?_⟩
  · rw [qErr_ver hw (Or.inr (by rw [h2, h]; decide)), h2]; exact h
  · have : isWd bNone = true := by unfold isWd; simp
    rw [h, this] at hw; cases hw
  · have : isWd bUpgrade = true := by unfold isWd; simp
    rw [h, this] at hw; cases hw
theorem vq_lt {v : ByteArray} (h : verErr v.data.toList = 0) : VerQ (⟨#[60]⟩ ++ v) sLt v := verQ_of (by rw [app_list]; rfl) (Or.inl rfl) (sg_lt h) h
theorem vq_gt {v : ByteArray} (h : verErr v.data.toList = 0) : VerQ (⟨#[62]⟩ ++ v) sGt v := verQ_of (by rw [app_list]; rfl) (Or.inr (Or.inl rfl)) (sg_gt h) h
theorem vq_le {v : ByteArray} (h : verErr v.data.toList = 0) : VerQ (⟨#[60, 61]⟩ ++ v) sLe v := verQ_of (by rw [app_list]; rfl) (Or.inl rfl) (sg_le h) h
theorem vq_ge {v : ByteArray} (h : verErr v.data.toList = 0) : VerQ (⟨#[62, 61]⟩ ++ v) sGe v := verQ_of (by rw [app_list]; rfl) (Or.inr (Or.inl rfl)) (sg_ge h) h
theorem vq_v {v : ByteArray} (h : verErr v.data.toList = 0) : VerQ v bE v := by
  obtain ⟨r, hr⟩ := ver_head h
  exact verQ_of hr (Or.inr (Or.inr rfl)) (sg_v h) h
theorem VerQ.s1 {q sg v : ByteArray} (h : VerQ q sg v) : (sgn q).1 = sg := by rw [h.sg]
theorem VerQ.s2 {q sg v : ByteArray} (h : VerQ q sg v) : (sgn q).2 = v := by rw [h.sg]
theorem VerQ.ok {q sg v now x : ByteArray} (h : VerQ q sg v) : okQ q now x = suitB q x := okQ_suit h.wd
theorem ok_lt {q v now x : ByteArray} (h : VerQ q sLt v) : okQ q now x = lessB x.data.toList v.data.toList := by rw [h.ok, suit_lt h.s1, h.s2]
theorem ok_le {q v now x : ByteArray} (h : VerQ q sLe v) : okQ q now x = !lessB v.data.toList x.data.toList := by rw [h.ok, suit_le h.s1, h.s2]
theorem ok_gt {q v now x : ByteArray} (h : VerQ q sGt v) : okQ q now x = lessB v.data.toList x.data.toList := by rw [h.ok, suit_gt h.s1, h.s2]
theorem ok_ge {q v now x : ByteArray} (h : VerQ q sGe v) : okQ q now x = !lessB x.data.toList v.data.toList := by rw [h.ok, suit_ge h.s1, h.s2]
theorem ok_v {v now x : ByteArray} (h : VerQ v bE v) (hv : verErr v.data.toList = 0) : okQ v now x = decide (x = v) := by rw [h.ok, suit_ver h.s1 hv]
/-- The one that is liked: one of them, or there is none. -/
theorem likG_in {Q : List Raw} {t : ByteArray} {b : Bool} {X : List ByteArray} : (X = [] ∧ likG Q t b X = bE) ∨ likG Q t b X ∈ X := by
  by_cases h0 : X.length = 0
  · have hX : X = [] := List.eq_nil_of_length_eq_zero h0
    subst hX
    refine Or.inl ⟨rfl, ?_⟩
    unfold likG
    split <;> rfl
  · refine Or.inr ?_
    unfold likG
    split
    · obtain ⟨j, hj, _, e, _⟩ := (likNL_is (Q := Q) (t := t) (X := X) X.length (Nat.le_refl _)).p (by omega)
      rw [e]; exact List.getElem_mem hj
    · obtain ⟨j, hj, _, e, _⟩ := (likN_is (Q := Q) (t := t) (X := X) X.length (Nat.le_refl _)).p (by omega)
      rw [e]; exact List.getElem_mem hj
theorem ver_neQ {x : ByteArray} (h : verErr x.data.toList = 0) : ¬ x = bE := fun e => by
  obtain ⟨r, hr⟩ := ver_head h
  rw [e] at hr; cases hr
/-- Where it looks: what is told. -/
theorem pk_look {Q : List Raw} {L : List Ent} {t q now : ByteArray} {X : List ByteArray} (hl : look Q L q) (hv : ∀ x, x ∈ X → verErr x.data.toList = 0) :
    ((∀ x, x ∈ X → okQ q now x = false) ∧ pkF Q L t q now X = (5, none) ∧ pkV Q L t q now X = bE) ∨
    (∃ x, x ∈ X ∧ okQ q now x = true ∧ pkF Q L t q now X = (0, none) ∧ pkV Q L t q now X = if q = bUpgrade then maxB x now else x) := by
  obtain ⟨h1, h2, h3⟩ := hl
  have g1 : ¬ qErr q ≠ 0 := by rw [h1]; simp
  have g2 : ¬ (chk Q L).1 ≠ 0 := by rw [h2]; simp
  rw [pkF_m g1 g2 h3, pkV_m g1 g2 h3]
  unfold pkB
  rcases likG_in (Q := Q) (t := t) (b := leastQ q) (X := someQ q now X) with ⟨e1, e2⟩ | h
  · refine Or.inl ⟨fun x hx => ?_, by rw [if_pos e2], by rw [if_pos e2]⟩
    cases e : okQ q now x with
    | false => rfl
    | true =>
      have : x ∈ someQ q now X := List.mem_filter.2 ⟨hx, e⟩
      rw [e1] at this; cases this
  · obtain ⟨m1, m2⟩ := List.mem_filter.1 h
    have hne := ver_neQ (hv _ m1)
    exact Or.inr ⟨_, m1, m2, by rw [if_neg hne], by rw [if_neg hne]⟩
end Ve
end Go.Proofs.YtmbphngmaglgmaaGreatDoor

/-
  What pewholderlaw3.QuerySplits and QueryHolds ask of index.Versions and of query.Pick; counting.
-/
namespace Go.Proofs.YtmbphngmaglgmaaGreatDoor
open Go.RowKit Go.Maps
namespace Ve

/-- What is asked of index.Versions. -/
def VersC : Prop := ∀ (L : List Raw) (t : ByteArray) (v : Value) (aT aB : Addr) (m : Int) (w : World), L.length ≤ 1000 → shortQ L → Vs w aT aB m → Lib.TabIs Tryz.prog w powName .u64 Lib.pow10Tab → EsAt w v L →
  Calls Tryz.prog 10 #[v, .string t] w fun e w' => ∃ u, e = .returned u ∧ ∃ X, w'.ownsRow w.heap.size 9 1 u X.length (X.map Value.string) ∧ Kept (verL (ofP t L)) (verL (ofP t L)).length X ∧ Below w.heap.size w w'
theorem versC_of : VersC := fun L t v aT aB m w h1 h2 h3 h4 h5 => vers_any L t v aT aB m w h1 h2 h3 h4 h5
/-- query.Pick, where it looks: something is picked, or nothing. -/
theorem pick_t {T : World → Prop} (PC : PickC T) {Q : List Raw} {L : List Ent} {t q now : ByteArray} {u : Value} {A : Nat → Addr} {m : Int} {W : World} {X : List ByteArray} {P : ByteArray → Bool} (hn : L.length ≤ 200) (sh : ∀ e, e ∈ L → ShE e) (hz : shortQ Q) (ht : t.size ≤ 100) (hq : q.size ≤ 100) (hw : now.size ≤ 100) (S : Te W A m) (hT : T W) (I : Ixs W u Q L)
    (hK : Kept (verL (ofP t Q)) (verL (ofP t Q)).length X) (hl : look Q L q) (hv : ∀ x, x ∈ X → verErr x.data.toList = 0) (hup : ¬ q = bUpgrade) (hP : ∀ x, x ∈ X → okQ q now x = P x) (ha : X.any P = true) :
    Calls Tryz.prog 13 #[u, .string t, .string q, .string now] W fun e w' => ∃ z, e = .returned (.tuple #[.string z, .nilIface]) ∧ z ∈ X ∧ P z = true ∧ Below W.heap.size W w' := by
  refine (PC Q L t q now u A m W hn sh hz ht hq hw S hT I).mono ?_
  rintro e w' ⟨X', y, hK', rfl, he, hb⟩
  have := kept_one (hK' hl) hK
  subst this
  rcases pk_look (t := t) (now := now) hl hv with ⟨h1, _, _⟩ | ⟨x, h1, h2, h3, h4⟩
  · obtain ⟨x, hx, h2⟩ := List.any_eq_true.1 ha
    have h3 := h1 x hx
    rw [hP x hx, h2] at h3
    cases h3
  · rw [h3] at he
    have he : y = .nilIface := he
    subst he
    rw [if_neg hup] at h4
    exact ⟨x, by rw [h4], h1, by rw [← hP x h1]; exact h2, hb⟩
theorem pick_f {T : World → Prop} (PC : PickC T) {Q : List Raw} {L : List Ent} {t q now : ByteArray} {u : Value} {A : Nat → Addr} {m : Int} {W : World} {X : List ByteArray} {P : ByteArray → Bool} (hn : L.length ≤ 200) (sh : ∀ e, e ∈ L → ShE e) (hz : shortQ Q) (ht : t.size ≤ 100) (hq : q.size ≤ 100) (hw : now.size ≤ 100) (S : Te W A m) (hT : T W) (I : Ixs W u Q L)
    (hK : Kept (verL (ofP t Q)) (verL (ofP t Q)).length X) (hl : look Q L q) (hv : ∀ x, x ∈ X → verErr x.data.toList = 0) (hP : ∀ x, x ∈ X → okQ q now x = P x) (ha : X.any P = false) :
    Calls Tryz.prog 13 #[u, .string t, .string q, .string now] W fun e w' => ∃ Ty a, e = .returned (.tuple #[.string ⟨#[]⟩, .iface Ty (.pointer (some a))]) ∧ Below W.heap.size W w' := by
  refine (PC Q L t q now u A m W hn sh hz ht hq hw S hT I).mono ?_
  rintro e w' ⟨X', y, hK', rfl, he, hb⟩
  have := kept_one (hK' hl) hK
  subst this
  rcases pk_look (t := t) (now := now) hl hv with ⟨_, h2, h3⟩ | ⟨x, h1, h2, _, _⟩
  · rw [h2] at he
    rcases he.kind with ⟨h, _⟩ | ⟨_, Ty, a, rfl⟩
    · cases h
    · exact ⟨Ty, a, by rw [h3]; rfl, hb⟩
  · have : X'.any P = true := List.any_eq_true.2 ⟨x, h1, by rw [← hP x h1]; exact h2⟩
    rw [ha] at this; cases this
/-- How many of them are so. -/
def cntP (P : ByteArray → Bool) (X : List ByteArray) : Nat := (X.filter P).length
theorem cntP_yes {P : ByteArray → Bool} {X : List ByteArray} {i : Nat} (h : i < X.length) (hp : P X[i] = true) : cntP P (X.take (i + 1)) = cntP P (X.take i) + 1 := by
  unfold cntP
  rw [List.take_succ_eq_append_getElem h, List.filter_append, List.length_append]
  simp [hp]
theorem cntP_no {P : ByteArray → Bool} {X : List ByteArray} {i : Nat} (h : i < X.length) (hp : P X[i] = false) : cntP P (X.take (i + 1)) = cntP P (X.take i) := by
  unfold cntP
  rw [List.take_succ_eq_append_getElem h, List.filter_append, List.length_append]
  simp [hp]
theorem cntP_le (P : ByteArray → Bool) (X : List ByteArray) : cntP P X ≤ X.length := List.length_filter_le _ _
theorem cntP_any {P : ByteArray → Bool} {X : List ByteArray} (h : X.any P = true) : 0 < cntP P X := by
  obtain ⟨x, hx, hp⟩ := List.any_eq_true.1 h
  exact List.length_pos_of_mem (List.mem_filter.2 ⟨hx, hp⟩)
theorem cntP_none {P : ByteArray → Bool} {X : List ByteArray} (h : X.any P = false) : cntP P X = 0 := by
  unfold cntP
  rw [List.length_eq_zero_iff, List.filter_eq_nil_iff]
  intro x hx hp
  have := List.any_eq_true.2 ⟨x, hx, hp⟩
  rw [h] at this; cases this
theorem one_cnt {a : Nat} {p : Bool} (h1 : p = true → 0 < a) (h2 : p = false → a = 0) : (p = true → (0 : Int) < (a : Int)) ∧ (p = false → ¬ (0 : Int) < (a : Int)) :=
  ⟨fun h => by have := h1 h; omega, fun h => by have := h2 h; omega⟩
theorem sum_two {a b : Nat} {p q : Bool} (ha : a ≤ 30) (hb : b ≤ 30) (h1 : p = true → 0 < a) (h2 : p = false → a = 0) (h3 : q = true → 0 < b) (h4 : q = false → b = 0) : ∃ s : Int, wrap64 ((a : Int) + (b : Int)) = s ∧ IntKind.i64.wrap ((a : Int) + (b : Int)) = s ∧ ((p || q) = true → 0 < s) ∧ ((p || q) = false → ¬ 0 < s) := by
  refine ⟨(a : Int) + (b : Int), IntWalk.wrap64_in _ (by omega), by rw [IntKind.wrap_i64] <;> omega, fun h => ?_, fun h => ?_⟩
  · rcases Bool.or_eq_true_iff.1 h with h | h
    · have := h1 h; omega
    · have := h3 h; omega
  · rw [Bool.or_eq_false_iff] at h
    have := h2 h.1; have := h4 h.2; omega
def pLs (v x : ByteArray) : Bool := decide (ordV x.data.toList v.data.toList < 0)
def pMr (v x : ByteArray) : Bool := decide (0 < ordV x.data.toList v.data.toList)
def pSm (v x : ByteArray) : Bool := decide (ordV x.data.toList v.data.toList = 0)
theorem any_or (P R : ByteArray → Bool) (X : List ByteArray) : X.any (fun x => P x || R x) = (X.any P || X.any R) := by
  induction X with
  | nil => rfl
  | cons a l ih => simp only [List.any_cons, ih]; cases P a <;> cases R a <;> simp
theorem lt_v {v x : ByteArray} (hv : verErr v.data.toList = 0) (hx : verErr x.data.toList = 0) : lessB x.data.toList v.data.toList = pLs v x := by unfold lessB pLs; simp [hv, hx]
theorem gt_v {v x : ByteArray} (hv : verErr v.data.toList = 0) (hx : verErr x.data.toList = 0) : lessB v.data.toList x.data.toList = pMr v x := by
  unfold lessB pMr
  rw [decide_eq_true hv, decide_eq_true hx, Bool.true_and, Bool.true_and, ordV_swap x.data.toList v.data.toList]
  rw [Bool.eq_iff_iff, decide_eq_true_iff, decide_eq_true_iff]
  omega
theorem le_v {v x : ByteArray} (hv : verErr v.data.toList = 0) (hx : verErr x.data.toList = 0) : (!lessB v.data.toList x.data.toList) = (pLs v x || pSm v x) := by
  rw [gt_v hv hx]
  unfold pMr pLs pSm
  rw [Bool.eq_iff_iff, Bool.or_eq_true, decide_eq_true_iff, decide_eq_true_iff, Bool.not_eq_true', decide_eq_false_iff_not]
  omega
theorem ge_v {v x : ByteArray} (hv : verErr v.data.toList = 0) (hx : verErr x.data.toList = 0) : (!lessB x.data.toList v.data.toList) = (pMr v x || pSm v x) := by
  rw [lt_v hv hx]
  unfold pMr pLs pSm
  rw [Bool.eq_iff_iff, Bool.or_eq_true, decide_eq_true_iff, decide_eq_true_iff, Bool.not_eq_true', decide_eq_false_iff_not]
  omega
theorem eq_v {v x : ByteArray} (hv : verErr v.data.toList = 0) (hx : verErr x.data.toList = 0) : decide (x = v) = pSm v x := by
  unfold pSm
  rw [Bool.eq_iff_iff, decide_eq_true_iff, decide_eq_true_iff, ordV_zero hx hv]
  exact ⟨fun h => by rw [h], fun h => str_ext h⟩
end Ve
end Go.Proofs.YtmbphngmaglgmaaGreatDoor

/-
  What InTexts of the document's answer says.
-/
namespace Go.Proofs.YtmbphngmaglgmaaGreatDoor
open Go.RowKit Go.Maps
namespace Ve

/-- Is a text among them? -/
def inB (s : ByteArray) (X : List ByteArray) : Bool := X.any fun x => decide (x = s)
theorem inB_iff {s : ByteArray} {X : List ByteArray} : inB s X = true ↔ s ∈ X := by
  unfold inB
  rw [List.any_eq_true]
  constructor
  · rintro ⟨x, hx, h⟩; rw [← of_decide_eq_true h]; exact hx
  · intro h; exact ⟨s, h, decide_eq_true rfl⟩
theorem inB_not {s : ByteArray} {X : List ByteArray} (h : ¬ s ∈ X) : inB s X = false := by
  cases e : inB s X with
  | false => rfl
  | true => exact absurd (inB_iff.1 e) h
set_option maxHeartbeats 1000000 in
theorem inT_any (s : ByteArray) (X : List ByteArray) (u : Value) (w : World) (hX : X.length ≤ 1000000) (hu : TxAt w u X) :
    Calls Tryz.prog 11 #[.string s, u] w fun e w' => e = .returned (.bool (inB s X)) ∧ w' = w := by
  have HU := hid hu
  obtain ⟨ua, uc, hu1, -⟩ := id hu
  subst hu1
  have HY := hid (fun (h : s ∈ X) => inB_iff.2 h)
  have HN := hid (fun (h : ¬ s ∈ X) => inB_not h)
  generalize inB s X = z at *
  clear hu
  go_enter Tryz.func11, Tryz.ntmps11
  go_wp2_with fail
  go_loopw [5] (fun iv wr => ∃ i : Nat, i ≤ X.length ∧ iv = .int .i64 i ∧ Hid (∀ j (h : j < X.length), j < i → X[j] ≠ s) ∧ wr = w) (fun iv _ => X.length - (intOf iv).toNat)
  case atStart => exact ⟨0, Nat.zero_le _, rfl, hid (fun j _ hj => absurd hj (Nat.not_lt_zero _)), rfl⟩
  case round =>
    obtain ⟨i, hi, rfl, HA, rfl⟩ := hrel
    by_cases hlt : i < X.length
    · have hiI := ix_lt hlt
      have hii := ix_pos i
      have HLI := hid hlt
      obtain ⟨xb, xo, hua, y0⟩ := tx_cellK HU.out hlt
      subst hua
      have HMX := hid (List.getElem_mem hlt)
      have HA2 := hid (show X[i] ≠ s → ∀ j (h : j < X.length), j < i + 1 → X[j] ≠ s from fun he j h hj => by
        rcases Nat.lt_or_ge j i with h1 | h1
        · exact HA.out j h h1
        · have : j = i := by omega
          subst this; exact he)
      generalize X[i] = x at *
      clear hlt
      by_cases he : x = s
      · subst he
        have HM := hid (HY.out HMX.out)
        have hq := str_refl x
        clear HA2
        go_wp2_with fail
        go_ret
        exact ⟨ret_bool HM.out.symm, rfl⟩
      · have HA3 := hid (HA2.out he)
        have hq := str_ne he
        clear he HA2
        go_wp2_with fail
        go_roundw
        case rel => first | exact ⟨i + 1, HLI.out, nr_idx i, HA3, by first | rfl | trivial⟩ | exact ⟨i + 1, HLI.out, nx_idx HLI.out hX, HA3, by first | rfl | trivial⟩
        case measure => first | exact nr_meas HLI.out | exact nx_meas HLI.out hX
    · have hiI := ix_nlt hlt
      have HM := hid (HN.out (fun hm => by
        obtain ⟨j, hj, e⟩ := List.getElem_of_mem hm
        exact HA.out j hj (by omega) e))
      clear hlt
      go_wp2_with fail
      go_ret
      exact ⟨ret_bool HM.out.symm, rfl⟩
end Ve
end Go.Proofs.YtmbphngmaglgmaaGreatDoor
