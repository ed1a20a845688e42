
import Derived.Test.YtjndahjfodnllaaGreatDoorPw8
import Derived.Test.YtjndahjfodnllaaGreatDoorPw7
import Derived.Test.YtjndahjfodnllaaGreatDoorPw4
import Derived.Test.YtjndahjfodnllaaGreatDoorPw3
import Derived.Test.YtjndahjfodnllaaGreatDoorPw1
import Derived.Test.YtjndahjfodnllaaGreatDoorPw5
import Derived.Test.YtjndahjfodnllaaGreatDoorCode
import Derived.Test.YtjndahjfodnllaaGreatDoorTe
import Derived.Test.YtjndahjfodnllaaGreatDoorPw6
import Derived.Deep.SlicePairs
import Derived.Lib.SmallJoins
import Derived.SliceStrings
import Derived.ProofKit
import Derived.LaidMore
import Derived.Lay
import Derived.Stop.Joined
import Derived.HandedShaped
namespace Go.Proofs.YtjndahjfodnllaaGreatDoor
open Go.RowKit Go.Maps
namespace Ve
end Ve
end Go.Proofs.YtjndahjfodnllaaGreatDoor


namespace Go.Proofs.YtjndahjfodnllaaGreatDoor
open Go.RowKit Go.Maps
namespace Ve
end Ve
end Go.Proofs.YtjndahjfodnllaaGreatDoor


namespace Go.Proofs.YtjndahjfodnllaaGreatDoor
open Go.RowKit Go.Maps
namespace Ve
end Ve
end Go.Proofs.YtjndahjfodnllaaGreatDoor


namespace Go.Proofs.YtjndahjfodnllaaGreatDoor
open Go.RowKit Go.Maps
namespace Ve
end Ve
end Go.Proofs.YtjndahjfodnllaaGreatDoor


namespace Go.Proofs.YtjndahjfodnllaaGreatDoor
open Go.RowKit Go.Maps
namespace Ve
end Ve
end Go.Proofs.YtjndahjfodnllaaGreatDoor


namespace Go.Proofs.YtjndahjfodnllaaGreatDoor
open Go.RowKit Go.Maps
namespace Ve
def CutP (Φ : Nat → World → Prop) (F : Nat → Act) : Exit → Act → World → Prop
  | .normal, a', w' => ∃ mb, Φ mb w' ∧ a' = F mb
  | _, _, _ => False
theorem wp_cut {P : Program} {c : Code} {K : Exit → Act → World → Prop} {a : Act} {w : World} (Φ : Nat → World → Prop) (h : ∃ F : Nat → Act, c.wp P (CutP Φ F) a w ∧ ∀ mb w', Φ mb w' → K Exit.normal (F mb) w') : c.wp P K a w := by
  obtain ⟨F, h1, h2⟩ := h
  refine Code.wp_mono (fun ex a' w' q => ?_) h1
  cases ex with
  | normal =>
    obtain ⟨mb, hp, rfl⟩ := q
    exact h2 mb w' hp
  | _ => exact q.elim
end Ve
end Go.Proofs.YtjndahjfodnllaaGreatDoor


namespace Go.Proofs.YtjndahjfodnllaaGreatDoor
open Go.RowKit Go.Maps
namespace Ve
def qa0 : Bm := (⟨#[97]⟩, ⟨#[118, 49, 46, 48, 46, 48]⟩)
def qa1 : Bm := (⟨#[97]⟩, ⟨#[118, 49, 46, 49, 46, 48]⟩)
def qb0 : Bm := (⟨#[98]⟩, ⟨#[118, 48, 46, 49, 46, 48]⟩)
def qb1 : Bm := (⟨#[98]⟩, ⟨#[118, 48, 46, 50, 46, 48, 45, 114, 99]⟩)
def s3L : List Ent := [(qa0, [], [⟨#[46]⟩, ⟨#[120]⟩], false), (qa1, [qb0], [⟨#[46]⟩], false), (qb0, [], [], false), (qb1, [], [], false)]
def s3Q (g : Nat) : List Raw := [(qa0, .slice none 0 0, .slice (some ⟨g, 0, none⟩) 2 2, false), (qa1, .slice (some ⟨g + 1, 0, none⟩) 1 1, .slice (some ⟨g + 2, 0, none⟩) 1 1, false), (qb0, .slice none 0 0, .slice none 0 0, false), (qb1, .slice none 0 0, .slice none 0 0, false)]
theorem s3_e0 : entE s3L 0 = 0 := by
  show entW none _ = 0
  rw [entW_none (by kernel_rfl), entR_pack (by decide) (by kernel_rfl)]
  exact pk_rise (by decide) (by kernel_rfl) (fun j hj => by
    have : j = 0 := by simp [bl] at hj; omega
    subst this; exact of_decide_eq_true (by kernel_rfl))
theorem s3_e1 : entE s3L 1 = 0 := by
  show entW (some _) _ = 0
  rw [entW_some (by kernel_rfl) (by kernel_rfl), entR_pack (by decide) (by kernel_rfl)]
  exact pk_rise (by decide) (by kernel_rfl) (fun j hj => by simp [bl] at hj)
theorem s3_e2 : entE s3L 2 = 0 := by
  show entW (some _) _ = 0
  rw [entW_some (by kernel_rfl) (by kernel_rfl), entR_pack (by decide) (by kernel_rfl)]
  exact pk_rise (by decide) (by kernel_rfl) (fun j hj => by simp [bl] at hj)
theorem s3_e3 : entE s3L 3 = 0 := by
  show entW (some _) _ = 0
  rw [entW_some (by kernel_rfl) (by kernel_rfl), entR_pack (by decide) (by kernel_rfl)]
  exact pk_rise (by decide) (by kernel_rfl) (fun j hj => by simp [bl] at hj)
theorem s3_chk (g : Nat) : chk (s3Q g) s3L = (0, none) := by
  have h2 : ∀ j, j < 4 → entE s3L j = 0 := fun j hj => by
    rcases (by omega : j = 0 ∨ j = 1 ∨ j = 2 ∨ j = 3) with rfl | rfl | rfl | rfl
    · exact s3_e0
    · exact s3_e1
    · exact s3_e2
    · exact s3_e3
  have h : fstE (entE s3L) s3L.length = none := fstE_none h2
  rw [chk_reqs (by decide) h]
  exact Prod.ext (show codeE (reqE2 (s3Q g) s3L) s3L.length = 0 by kernel_rfl) (show fstE (reqE2 (s3Q g) s3L) s3L.length = none by kernel_rfl)
theorem s3_sh : ∀ e, e ∈ s3L → ShE e := fun e he => by
  have : e = s3L[0] ∨ e = s3L[1] ∨ e = s3L[2] ∨ e = s3L[3] := by simpa [s3L] using he
  rcases this with rfl | rfl | rfl | rfl
  · exact ⟨by decide, by decide, by decide, fun m hm => (by cases hm), by decide, fun x hx => (by
      have : x = ⟨#[46]⟩ ∨ x = ⟨#[120]⟩ := by simpa [s3L] using hx
      rcases this with rfl | rfl <;> decide)⟩
  · exact ⟨by decide, by decide, by decide, fun m hm => (by have : m = qb0 := List.mem_singleton.1 hm
                                                            subst this; exact ⟨by decide, by decide⟩), by decide, fun x hx => (by have : x = ⟨#[46]⟩ := List.mem_singleton.1 hx
                                                                                                                                  subst this; decide)⟩
  · exact ⟨by decide, by decide, by decide, fun m hm => (by cases hm), by decide, fun x hx => (by cases hx)⟩
  · exact ⟨by decide, by decide, by decide, fun m hm => (by cases hm), by decide, fun x hx => (by cases hx)⟩
theorem s3_ixs {W : World} {g q : Nat} (hb : W.heap[q]? = some (.cells #[.string ⟨#[97]⟩, .string ⟨#[118, 49, 46, 48, 46, 48]⟩, .slice none 0 0, .slice (some ⟨g, 0, none⟩) 2 2, .bool false, .string ⟨#[97]⟩, .string ⟨#[118, 49, 46, 49, 46, 48]⟩, .slice (some ⟨g + 1, 0, none⟩) 1 1, .slice (some ⟨g + 2, 0, none⟩) 1 1, .bool false, .string ⟨#[98]⟩, .string ⟨#[118, 48, 46, 49, 46, 48]⟩, .slice none 0 0, .slice none 0 0, .bool false, .string ⟨#[98]⟩, .string ⟨#[118, 48, 46, 50, 46, 48, 45, 114, 99]⟩, .slice none 0 0, .slice none 0 0, .bool false] 61 (0, 0)))
    (hp : W.heap[g]? = some (.cells #[.string ⟨#[46]⟩, .string ⟨#[120]⟩] 9 (0, 0))) (hg : W.heap[g + 1]? = some (.cells #[.string ⟨#[98]⟩, .string ⟨#[118, 48, 46, 49, 46, 48]⟩] 38 (0, 0))) (hd : W.heap[g + 2]? = some (.cells #[.string ⟨#[46]⟩] 9 (0, 0))) :
    Ixs W (.slice (some ⟨q, 0, none⟩) 4 4) (s3Q g) s3L := by
  have msn : MsAt W (.slice none 0 0) [] := ⟨none, 0, rfl, Nat.le_refl _, fun h => absurd rfl h⟩
  have txn : TxAt W (.slice none 0 0) [] := ⟨none, 0, rfl, Nat.le_refl _, fun h => absurd rfl h⟩
  have msb : MsAt W (.slice (some ⟨g + 1, 0, none⟩) 1 1) [qb0] := ⟨some ⟨g + 1, 0, none⟩, 1, rfl, Nat.le_refl _, fun _ => ⟨g + 1, 0, rfl, fun j hj => by
    have : j = 0 := by simp at hj; exact hj
    subst this
    refine ⟨?_, ?_⟩ <;> (rw [Lib.cell_of_heap hg]; rfl)⟩⟩
  have tx1 : TxAt W (.slice (some ⟨g, 0, none⟩) 2 2) [⟨#[46]⟩, ⟨#[120]⟩] := ⟨some ⟨g, 0, none⟩, 2, rfl, Nat.le_refl _, fun _ => ⟨g, 0, rfl, fun j hj => by
    have hj2 : j < 2 := hj
    rcases (by omega : j = 0 ∨ j = 1) with rfl | rfl
    · rw [Lib.cell_of_heap hp]; rfl
    · rw [Lib.cell_of_heap hp]; rfl⟩⟩
  have tx2 : TxAt W (.slice (some ⟨g + 2, 0, none⟩) 1 1) [⟨#[46]⟩] := ⟨some ⟨g + 2, 0, none⟩, 1, rfl, Nat.le_refl _, fun _ => ⟨g + 2, 0, rfl, fun j hj => by
    have : j = 0 := by simp at hj; exact hj
    subst this
    rw [Lib.cell_of_heap hd]; rfl⟩⟩
  refine ⟨⟨some ⟨q, 0, none⟩, 4, rfl, Nat.le_refl _, fun r hr => ?_, fun _ => ⟨q, 0, rfl, fun j hj => ?_⟩⟩, rfl, fun j h1 h2 => ?_⟩
  · rcases List.mem_cons.1 hr with rfl | hr
    · exact ⟨⟨none, 0, 0, rfl⟩, _, _, _, rfl⟩
    rcases List.mem_cons.1 hr with rfl | hr
    · exact ⟨⟨_, _, _, rfl⟩, _, _, _, rfl⟩
    rcases List.mem_cons.1 hr with rfl | hr
    · exact ⟨⟨none, 0, 0, rfl⟩, none, 0, 0, rfl⟩
    rw [List.mem_singleton.1 hr]
    exact ⟨⟨none, 0, 0, rfl⟩, none, 0, 0, rfl⟩
  · have hj2 : j < 4 := hj
    rcases (by omega : j = 0 ∨ j = 1 ∨ j = 2 ∨ j = 3) with rfl | rfl | rfl | rfl
    · refine ⟨?_, ?_, ?_, ?_, ?_⟩ <;> (rw [Lib.cell_of_heap hb]; rfl)
    · refine ⟨?_, ?_, ?_, ?_, ?_⟩ <;> (rw [Lib.cell_of_heap hb]; rfl)
    · refine ⟨?_, ?_, ?_, ?_, ?_⟩ <;> (rw [Lib.cell_of_heap hb]; rfl)
    · refine ⟨?_, ?_, ?_, ?_, ?_⟩ <;> (rw [Lib.cell_of_heap hb]; rfl)
  · have hj2 : j < 4 := h1
    rcases (by omega : j = 0 ∨ j = 1 ∨ j = 2 ∨ j = 3) with rfl | rfl | rfl | rfl
    · exact ⟨rfl, msn, tx1, rfl⟩
    · exact ⟨rfl, msb, tx2, rfl⟩
    · exact ⟨rfl, msn, txn, rfl⟩
    · exact ⟨rfl, msn, txn, rfl⟩
set_option maxHeartbeats 2000000 in
theorem small3_any (w : World) : Calls Tryz.prog 25 #[] w fun e w' => ∃ g q, e = .returned (.slice (some ⟨q, 0, none⟩) 4 4) ∧ Ixs w' (.slice (some ⟨q, 0, none⟩) 4 4) (s3Q g) s3L ∧ Below w.heap.size w w' := by
  have a1 := heap_new w (.cells #[.string ⟨#[46]⟩, .string ⟨#[120]⟩] 9)
  have z1 : (w.alloc (.cells #[.string ⟨#[46]⟩, .string ⟨#[120]⟩] 9)).heap.size = w.heap.size + 1 := by simp
  have b1 := (Below.refl w.heap.size w).alloc (Nat.le_refl _) (.cells #[.string ⟨#[46]⟩, .string ⟨#[120]⟩] 9)
  obtain ⟨w1, hw1⟩ : ∃ w1, w.alloc (.cells #[.string ⟨#[46]⟩, .string ⟨#[120]⟩] 9) = w1 := ⟨_, rfl⟩
  rw [hw1] at a1 z1 b1
  have a2 := heap_new w1 (.cells #[.string ⟨#[98]⟩, .string ⟨#[118, 48, 46, 49, 46, 48]⟩] 38)
  have c1 := heap_old w1 (.cells #[.string ⟨#[98]⟩, .string ⟨#[118, 48, 46, 49, 46, 48]⟩] 38) a1
  have b2 := b1.alloc b1.size (.cells #[.string ⟨#[98]⟩, .string ⟨#[118, 48, 46, 49, 46, 48]⟩] 38)
  have z2 : (w1.alloc (.cells #[.string ⟨#[98]⟩, .string ⟨#[118, 48, 46, 49, 46, 48]⟩] 38)).heap.size = w.heap.size + 2 := by simp [z1]
  rw [z1] at a2
  obtain ⟨w2, hw2⟩ : ∃ w2, w1.alloc (.cells #[.string ⟨#[98]⟩, .string ⟨#[118, 48, 46, 49, 46, 48]⟩] 38) = w2 := ⟨_, rfl⟩
  rw [hw2] at a2 c1 b2 z2
  have a3 := heap_new w2 (.cells #[.string ⟨#[46]⟩] 9)
  have c2 := heap_old w2 (.cells #[.string ⟨#[46]⟩] 9) c1
  have d2 := heap_old w2 (.cells #[.string ⟨#[46]⟩] 9) a2
  have b3 := b2.alloc b2.size (.cells #[.string ⟨#[46]⟩] 9)
  have z3 : (w2.alloc (.cells #[.string ⟨#[46]⟩] 9)).heap.size = w.heap.size + 3 := by simp [z2]
  rw [z2] at a3
  obtain ⟨w3, hw3⟩ : ∃ w3, w2.alloc (.cells #[.string ⟨#[46]⟩] 9) = w3 := ⟨_, rfl⟩
  rw [hw3] at a3 c2 d2 b3 z3
  have a4 := heap_new w3 (.cells #[.string ⟨#[97]⟩, .string ⟨#[118, 49, 46, 48, 46, 48]⟩, .slice none 0 0, .slice (some ⟨w.heap.size, 0, none⟩) 2 2, .bool false, .string ⟨#[97]⟩, .string ⟨#[118, 49, 46, 49, 46, 48]⟩, .slice (some ⟨w.heap.size + 1, 0, none⟩) 1 1, .slice (some ⟨w.heap.size + 2, 0, none⟩) 1 1, .bool false, .string ⟨#[98]⟩, .string ⟨#[118, 48, 46, 49, 46, 48]⟩, .slice none 0 0, .slice none 0 0, .bool false, .string ⟨#[98]⟩, .string ⟨#[118, 48, 46, 50, 46, 48, 45, 114, 99]⟩, .slice none 0 0, .slice none 0 0, .bool false] 61)
  have c3 := heap_old w3 (.cells #[.string ⟨#[97]⟩, .string ⟨#[118, 49, 46, 48, 46, 48]⟩, .slice none 0 0, .slice (some ⟨w.heap.size, 0, none⟩) 2 2, .bool false, .string ⟨#[97]⟩, .string ⟨#[118, 49, 46, 49, 46, 48]⟩, .slice (some ⟨w.heap.size + 1, 0, none⟩) 1 1, .slice (some ⟨w.heap.size + 2, 0, none⟩) 1 1, .bool false, .string ⟨#[98]⟩, .string ⟨#[118, 48, 46, 49, 46, 48]⟩, .slice none 0 0, .slice none 0 0, .bool false, .string ⟨#[98]⟩, .string ⟨#[118, 48, 46, 50, 46, 48, 45, 114, 99]⟩, .slice none 0 0, .slice none 0 0, .bool false] 61) c2
  have d3 := heap_old w3 (.cells #[.string ⟨#[97]⟩, .string ⟨#[118, 49, 46, 48, 46, 48]⟩, .slice none 0 0, .slice (some ⟨w.heap.size, 0, none⟩) 2 2, .bool false, .string ⟨#[97]⟩, .string ⟨#[118, 49, 46, 49, 46, 48]⟩, .slice (some ⟨w.heap.size + 1, 0, none⟩) 1 1, .slice (some ⟨w.heap.size + 2, 0, none⟩) 1 1, .bool false, .string ⟨#[98]⟩, .string ⟨#[118, 48, 46, 49, 46, 48]⟩, .slice none 0 0, .slice none 0 0, .bool false, .string ⟨#[98]⟩, .string ⟨#[118, 48, 46, 50, 46, 48, 45, 114, 99]⟩, .slice none 0 0, .slice none 0 0, .bool false] 61) d2
  have e3 := heap_old w3 (.cells #[.string ⟨#[97]⟩, .string ⟨#[118, 49, 46, 48, 46, 48]⟩, .slice none 0 0, .slice (some ⟨w.heap.size, 0, none⟩) 2 2, .bool false, .string ⟨#[97]⟩, .string ⟨#[118, 49, 46, 49, 46, 48]⟩, .slice (some ⟨w.heap.size + 1, 0, none⟩) 1 1, .slice (some ⟨w.heap.size + 2, 0, none⟩) 1 1, .bool false, .string ⟨#[98]⟩, .string ⟨#[118, 48, 46, 49, 46, 48]⟩, .slice none 0 0, .slice none 0 0, .bool false, .string ⟨#[98]⟩, .string ⟨#[118, 48, 46, 50, 46, 48, 45, 114, 99]⟩, .slice none 0 0, .slice none 0 0, .bool false] 61) a3
  have b4 := b3.alloc b3.size (.cells #[.string ⟨#[97]⟩, .string ⟨#[118, 49, 46, 48, 46, 48]⟩, .slice none 0 0, .slice (some ⟨w.heap.size, 0, none⟩) 2 2, .bool false, .string ⟨#[97]⟩, .string ⟨#[118, 49, 46, 49, 46, 48]⟩, .slice (some ⟨w.heap.size + 1, 0, none⟩) 1 1, .slice (some ⟨w.heap.size + 2, 0, none⟩) 1 1, .bool false, .string ⟨#[98]⟩, .string ⟨#[118, 48, 46, 49, 46, 48]⟩, .slice none 0 0, .slice none 0 0, .bool false, .string ⟨#[98]⟩, .string ⟨#[118, 48, 46, 50, 46, 48, 45, 114, 99]⟩, .slice none 0 0, .slice none 0 0, .bool false] 61)
  rw [z3] at a4
  have HX := hid (s3_ixs a4 c3 d3 e3)
  have HB := hid b4
  subst hw3 hw2 hw1
  clear a1 a2 a3 a4 b1 b2 b3 b4 c1 c2 c3 d2 d3 e3
  go_enter Tryz.func25, Tryz.ntmps25
  go_wp2_with fail
  go_ret
  exact ⟨w.heap.size, w.heap.size + 3, rfl, HX.out, HB.out⟩
end Ve
end Go.Proofs.YtjndahjfodnllaaGreatDoor


namespace Go.Proofs.YtjndahjfodnllaaGreatDoor
open Go.RowKit Go.Maps
namespace Ve
def bAX : ByteArray := ⟨#[97, 47, 120]⟩
theorem s3_slF (g : Nat) : slF (s3Q g) [qa0] = (0, none) := Prod.ext (show codeE (nonE (s3Q g) [qa0]) 1 = 0 by kernel_rfl) (show fstE (nonE (s3Q g) [qa0]) 1 = none by kernel_rfl)
theorem s3_bst (g : Nat) : bstN (s3Q g) s3L bAX [qa0] 1 = qa0 := by kernel_rfl
theorem s3_path : pathErr bAX.data.toList = 0 := by kernel_rfl
theorem s3_ofF (g : Nat) : ofF (s3Q g) s3L [qa0] bAX = (0, none) := by
  unfold ofF
  rw [s3_chk, if_neg (by simp), s3_path, if_neg (by simp), s3_slF, if_neg (by simp)]
  show (if (bstN (s3Q g) s3L bAX [qa0] 1).1.size = 0 then (5, none) else (0, none)) = ((0, none) : Nat × Option Nat)
  rw [s3_bst, if_neg (by decide)]
theorem s3_ofM (g : Nat) : ofM (s3Q g) s3L [qa0] bAX = qa0 := by
  unfold ofM
  rw [s3_ofF, if_pos rfl]
  exact s3_bst g
theorem s3_shQ (g : Nat) : shQ (s3Q g) := fun r hr => by
  have : r.1 = qa0 ∨ r.1 = qa1 ∨ r.1 = qb0 ∨ r.1 = qb1 := by
    have h := List.mem_map_of_mem (f := fun r : Raw => r.1) hr
    simpa [s3Q] using h
  rcases this with h | h | h | h <;> rw [h] <;> exact ⟨by decide, by decide⟩
end Ve
end Go.Proofs.YtjndahjfodnllaaGreatDoor


namespace Go.Proofs.YtjndahjfodnllaaGreatDoor
open Go.RowKit
namespace Ve
end Ve
end Go.Proofs.YtjndahjfodnllaaGreatDoor


namespace Go.Proofs.YtjndahjfodnllaaGreatDoor
open Go.RowKit Go.Maps
namespace Ve
end Ve
end Go.Proofs.YtjndahjfodnllaaGreatDoor


namespace Go.Proofs.YtjndahjfodnllaaGreatDoor
open Go.RowKit Go.Maps
namespace Ve
set_option maxRecDepth 100000 in
set_option maxHeartbeats 2000000 in
theorem packed_any {T : World → Prop} (OC : OfC T) (KT : StayK T) (A : Nat → Addr) (m : Int) (w : World) (S : Te w A m) (hT : T w) :
    Calls Tryz.prog 6 #[] w fun e w' => e = .returned (.bool true) ∧ Below w.heap.size w w' := by
  have HSM := hid (fun W => small3_any W)
  have HS := hid (fun W (h : Below w.heap.size w W) => S.below h)
  have HT := hid (fun W (h : Below w.heap.size w W) => KT w W hT h)
  have HOC := hid OC
  clear S OC KT hT
  go_enter Tryz.func6, Tryz.ntmps6
  go_wp2_with fail
  refine (HSM.out w).mono ?_
  rintro e w1 ⟨g, q, rfl, hix, hb⟩
  have HB1 := hid hb
  have HIX := hid hix
  clear hb hix
  have HB2 := hid (HB1.out.alloc HB1.out.size (.cells #[.string ⟨#[97]⟩, .string ⟨#[118, 49, 46, 48, 46, 48]⟩] 38))
  have HN2 := hid ((Below.refl w1.heap.size w1).alloc (Nat.le_refl _) (.cells #[.string ⟨#[97]⟩, .string ⟨#[118, 49, 46, 48, 46, 48]⟩] 38))
  have HMS := hid (show MsAt (w1.alloc (.cells #[.string ⟨#[97]⟩, .string ⟨#[118, 49, 46, 48, 46, 48]⟩] 38)) (.slice (some ⟨w1.heap.size, 0, none⟩) 1 1) [qa0] from
    ⟨some ⟨w1.heap.size, 0, none⟩, 1, rfl, Nat.le_refl _, fun _ => ⟨w1.heap.size, 0, rfl, fun j hj => by
      have : j = 0 := by simp at hj; omega
      subst this
      exact ⟨by simp; rfl, by simp; rfl⟩⟩⟩)
  have HO := hid (HOC.out (s3Q g) s3L [qa0] bAX _ _ A m _ (by decide) s3_sh (s3_shQ g) (by decide) (Nat.le_trans (hv_all _ _ _ _) (by decide)) (by decide) (HS.out _ HB2.out) (HT.out _ HB2.out) (HIX.out.below HN2.out) HMS.out)
  rw [s3_ofM, s3_ofF] at HO
  go_wp2_with fail
  refine HO.out.mono ?_
  rintro e w2 ⟨x, rfl, hx, hb⟩
  have HB3 := hid (HB2.out.trans (hb.mono HB2.out.size))
  rcases hx.kind with ⟨-, rfl⟩ | ⟨h0, -⟩
  · clear hb hx
    have hq : (qa0.2.toList == [118, 49, 46, 48, 46, 48]) = true := by rw [ByteArray.toList_eq]; rfl
    go_wp2_with fail
    go_ret
    exact ⟨rfl, HB3.out.alloc HB3.out.size _⟩
  · exact absurd rfl h0
theorem str_rf (a : ByteArray) : (a.toList == a.toList) = true := beq_self_eq_true _
theorem ixs_shQ {w : World} {v : Value} {Q : List Raw} {L : List Ent} (I : Ixs w v Q L) (h : okI L = true) : shQ Q := ixs_sz I h
theorem pk_len {Q : List Raw} {L : List Ent} (sh : ∀ e, e ∈ L → ShE e) (m : Bm) : (pkOf Q L m).length ≤ 1000 := by
  unfold pkOf
  rw [packL_len]
  unfold entOf
  cases h : L[(idxOf (isM m) Q).toNat]? with
  | none => exact Nat.zero_le _
  | some e => exact (sh e (List.mem_of_getElem? h)).pn
theorem pkf_len {Q : List Raw} {L : List Ent} (sh : ∀ e, e ∈ L → ShE e) : ∀ R : List Bm, (R.flatMap (pkOf Q L)).length ≤ R.length * 1000
  | [] => Nat.zero_le _
  | m :: R => by
    have h1 := pk_len (Q := Q) sh m
    have h2 := pkf_len (Q := Q) sh R
    rw [List.flatMap_cons, List.length_append, List.length_cons]; omega
theorem whN_len {Q : List Raw} {L : List Ent} {p : ByteArray} {X : List ByteArray} {n : Nat} : (whN Q L p X n).length ≤ X.length := by
  unfold whN
  rw [List.length_map]; exact List.length_filter_le _ _
theorem whD_len {Q : List Raw} {L : List Ent} {p : ByteArray} {X : List ByteArray} : ∀ n : Nat, (whD Q L p X n).length ≤ n * X.length
  | 0 => Nat.zero_le _
  | n + 1 => by
    have h1 := whN_len (Q := Q) (L := L) (p := p) (X := X) (n := n + 1)
    have h2 := whD_len (Q := Q) (L := L) (p := p) (X := X) n
    unfold whD
    rw [List.length_append, Nat.add_mul, Nat.one_mul]; omega
theorem wh_len {Q : List Raw} {L : List Ent} {p : ByteArray} (h : Q.length ≤ 1000) : (whX Q L p).length ≤ 1000000 := by
  unfold whX
  split
  · have h1 := whD_len (Q := Q) (L := L) (p := p) (X := phX Q) 100
    have h2 := fold_len (Z := pathL Q) (X := [])
    rw [pathL_len] at h2
    simp only [List.length_nil] at h2
    have h3 : (phX Q).length ≤ 1000 := by unfold phX; omega
    omega
  · exact Nat.zero_le _
end Ve
end Go.Proofs.YtjndahjfodnllaaGreatDoor


namespace Go.Proofs.YtjndahjfodnllaaGreatDoor
open Go.RowKit Go.Maps
namespace Ve
theorem al_one {Q : List Raw} {L : List Ent} {x : Bm} (sh : ∀ e, e ∈ L → ShE e) : (alN Q L [x]).length ≤ 1000000 := by
  have h1 := pkf_len (Q := Q) sh [x]
  have h2 := fold_len (Z := [x].flatMap (pkOf Q L)) (X := [])
  unfold alN
  simp only [List.length_nil, List.length_cons] at h1 h2
  omega
theorem hasB_next {E : List Bm} {k : Nat} (h : k < E.length) (m : Bm) : hasB (E.take (k + 1)) m = (hasB (E.take k) m || decide (m.1 = E[k].1 ∧ m.2 = E[k].2)) := by
  unfold hasB
  rw [List.take_succ_eq_append_getElem h, List.any_append]; simp
end Ve
end Go.Proofs.YtjndahjfodnllaaGreatDoor


namespace Go.Proofs.YtjndahjfodnllaaGreatDoor
open Go.RowKit Go.Maps
namespace Ve
theorem wpQuiet_skip {P : Program} {ops : Array Oper} {C : World → Prop} {Q : Act → Prop} {a : Act} {o : Oper} {rest : List Oper} (h : Region.wanted o (yielded ops a.tmps) = false) (hr : wpQuiet P ops C Q rest (a.put o.dst undef)) : wpQuiet P ops C Q (o :: rest) a := by
  unfold wpQuiet
  rw [if_neg (by simp [h])]
  exact hr
def LatC (T : World → Prop) : Prop := ∀ (Q : List Raw) (t : ByteArray) (v : Value) (A : Nat → Addr) (m : Int) (w : World), Q.length ≤ 1000 → shQ Q → Te w A m → T w → EsAt w v Q →
  Calls Tryz.prog 23 #[v, .string t] w fun e w' => ∃ X, e = .returned (.string (lastT X)) ∧ KeptT Q t X ∧ Below w.heap.size w w'
theorem below_grown (w : World) (n : Nat) (os : Array Obj) : Below w.heap.size w (Go.Sort.grow (w.drewN n) os) :=
  ⟨rfl, rfl, rfl, by rw [Go.Sort.size_grow]; exact Nat.le_add_right _ _, fun k hk => Go.Sort.heap_grow_old _ _ hk⟩
theorem lat_grown {T : World → Prop} (LC : LatC T) {Q : List Raw} {t lv : ByteArray} {v : Value} {A : Nat → Addr} {m : Int} {w : World} (hQ : Q.length ≤ 1000) (hq : shQ Q) (S : Te w A m) (hT : T w) (hv : EsAt w v Q) (h : ∀ Y, KeptT Q t Y → lastT Y = lv) :
    Calls Tryz.prog 23 #[v, .string t] w fun e w' => e = .returned (.string lv) ∧ ∃ q os', w' = Go.Sort.grow (w.drewN q) os' :=
  (Mo.calls_ge (LC Q t v A m w hQ hq S hT hv) (fun _ _ ⟨X, h1, _⟩ => ⟨_, h1⟩)).mono fun _ _ ⟨⟨X, h1, h2, h3⟩, h4⟩ => ⟨by rw [h1, h X h2], grow_of_be h3 h4⟩
set_option maxRecDepth 100000 in
set_option maxHeartbeats 16000000 in
theorem pw_main {T : World → Prop} (OC : OfC T) (AC : AllC T) (WC : WhoC T) (LC : LatC T) (KT : StayK T) (Q0 : List Raw) (L : List Ent) (p : ByteArray) (v : Value) (A : Nat → Addr) (m : Int) (w : World) (S : Te w A m) (hT : T w) (I : Ixs w v Q0 L) (em : EmI Q0 L) (hok : okI L = true) (hl30 : L.length ≤ 30) (hp : p.size ≤ 100) :
    Calls Tryz.prog 5 #[v, .string p] w fun e w' => e = .returned (.bool true) ∧ Below w.heap.size w w' := by
  have hq30 : Q0.length ≤ 30 := by rw [I.ln]; exact hl30
  have g1 : ¬ (100 : Int) < (p.size : Int) := by omega
  have g2 : ¬ (30 : Int) < (Q0.length : Int) := by omega
  have HIN := hid (packed_any OC KT A m w S hT)
  have HLO := hid (fun W (h : Below w.heap.size w W) => longI_any Q0 L v W (I.below h))
  rw [if_pos hok] at HLO
  have HOW := hid (fun W (h : Below w.heap.size w W) => ownI_any Q0 L v W (by omega) (I.below h) em (okI_fits hok))
  have HPW := hid (fun Q u W (h : Below w.heap.size w W) (J : Ixs W u Q L) => WC Q L p u A m W (by omega) (okI_sh hok) (ixs_shQ J hok) (by omega) (S.below h) (KT w W hT h) J)
  have HPA := hid (fun Q u R ru W (h : Below w.heap.size w W) (hR : R.length ≤ 1000) (J : Ixs W u Q L) (hm : MsAt W ru R) => AC Q L R u ru A m W (by omega) (okI_sh hok) (ixs_shQ J hok) hR (S.below h) (KT w W hT h) J hm)
  have HPL := hid (fun Q u t W (h : Below w.heap.size w W) (J : Ixs W u Q L) => LC Q t u A m W (by rw [J.ln]; omega) (ixs_shQ J hok) (S.below h) (KT w W hT h) J.es)
  have HPP := hid (fun Q u W (_ : Below w.heap.size w W) (J : Ixs W u Q L) => paths_any Q u W (by rw [J.ln]; omega) J.es)
  have HSQ := hid (fun Q u W (J : Ixs W u Q L) => ixs_shQ (w := W) (v := u) (Q := Q) J hok)
  have HLG0 := hid (fun Q u t lv W (h : Below w.heap.size w W) (J : Ixs W u Q L) (hK : ∀ Y, KeptT Q t Y → lastT Y = lv) => lat_grown LC (by rw [J.ln]; omega) (ixs_shQ J hok) (S.below h) (KT w W hT h) J.es hK)
  have HSL := hid (okI_sh hok)
  obtain ⟨a0, c0, hv0, -⟩ := id I.es
  subst hv0
  clear S I em hok OC AC WC LC KT hT
  go_enter Tryz.func5, Tryz.ntmps5
  go_wp2_with fail
  refine HIN.out.mono ?_
  rintro e w1 ⟨rfl, hb⟩
  have HB1 := hid hb
  clear hb HIN
  go_wp2_with fail
  refine (HLO.out w1 HB1.out).mono ?_
  rintro e w2 ⟨rfl, hb⟩
  have HB2 := hid (HB1.out.trans (hb.mono HB1.out.size))
  clear hb HLO HB1
  go_wp2_with fail
  refine (HOW.out w2 HB2.out).mono ?_
  rintro e w4 ⟨ou, Q, rfl, hO, hb⟩
  have HB4 := hid (HB2.out.trans (hb.mono HB2.out.size))
  have HJ4 := hid hO.ixs
  obtain ⟨oa, oc, hou, -⟩ := id hO.ixs.es
  subst hou
  have HP4 := hid (HPW.out Q _ w4 HB4.out HJ4.out)
  clear hb hO HOW HB2 HPW
  go_wp2_with fail
  refine HP4.out.mono ?_
  rintro e w5 ⟨zv, z, rfl, hz, he, hb⟩
  have HB5 := hid (HB4.out.trans (hb.mono HB4.out.size))
  have HJ5 := hid (HJ4.out.below hb)
  have HZ5 := hid hz
  obtain ⟨za, zc, hz1, -⟩ := hz
  subst hz1
  have HSH := hid (HSQ.out _ _ _ HJ5.out)
  have HZL := hid (wh_len (L := L) (p := p) (show Q.length ≤ 1000 by rw [HJ5.out.ln]; omega))
  clear hb HP4 HJ4 HB4 HSQ
  by_cases hc : (chk Q L).1 = 0
  · rcases he.kind with ⟨-, rfl⟩ | ⟨h0, -⟩
    · have HC := hid hc
      clear he hc
      go_wp2_with fail
      go_loopw [9] (fun iv wr => ∃ i : Nat, i ≤ (whX Q L p).length ∧ iv = .int .i64 i ∧ Hid (Below w5.heap.size w5 wr)) (fun iv _ => (whX Q L p).length - (intOf iv).toNat)
      case atStart => exact ⟨0, Nat.zero_le _, rfl, hid (Below.refl _ _)⟩
      case round =>
        obtain ⟨i, hi9, rfl, HBR⟩ := hrel
        have hZl := HZL.out
        by_cases hlt : i < (whX Q L p).length
        · have hiI := ix_lt hlt
          have hi0 := ix_pos i
          have HLT := hid hlt
          obtain ⟨zb, zo, hza, y0, y1⟩ := HZ5.out.cells hlt
          subst hza
          have HBW := hid (fun W (h : Below w5.heap.size w5 W) => HB5.out.trans (h.mono HB5.out.size))
          have HLV := hid (wh_lat (List.getElem_mem hlt))
          have HCC := hid (fun W (h : Below w5.heap.size w5 W) => And.intro (cell_below h y0) (cell_below h y1))
          have HLG := hid (fun W t lv (hK : ∀ Y, KeptT Q t Y → lastT Y = lv) (h : Below w5.heap.size w5 W) => HLG0.out Q _ t lv W (HBW.out W h) (HJ5.out.below h) hK)
          have mixed : Tryz.prog.follows .mixedOrders = true := by kernel_rfl
          have HGB := hid (fun n os => HBR.out.trans ((below_grown wr n os).mono HBR.out.size))
          by_cases hz0 : 0 < i
          · obtain ⟨k, rfl⟩ : ∃ k, i = k + 1 := ⟨i - 1, by omega⟩
            clear hz0
            obtain ⟨zb', zo', hza, q0, -⟩ := HZ5.out.cells (show k < (whX Q L p).length by omega)
            injection hza with hza
            injection hza with hza1 hza2
            subst hza1 hza2
            have HDN := hid (wh_down hlt)
            have HCQ := hid (fun W (h : Below w5.heap.size w5 W) => cell_below h q0)
            generalize (whX Q L p)[k] = y at *
            generalize (whX Q L p)[k + 1] = x at *
            obtain ⟨x1, x2'⟩ := x
            have HCG := hid (show ∀ n os, Calls Tryz.prog 23 #[.slice oa Q.length oc, .string x1] (Go.Sort.grow (wr.drewN n) os) fun e w' => e = .returned (.string x2') ∧ ∃ q os', w' = Go.Sort.grow ((Go.Sort.grow (wr.drewN n) os).drewN q) os' from fun n os => HLG.out _ x1 x2' (fun Y hK => (latV_of hK).trans HLV.out.1.symm) (HGB.out n os))
            have z0 : ∀ n os, (Go.Sort.grow (wr.drewN n) os).cell? ⟨zb, zo + (k + 1) * 2, none⟩ = some (.string x1) := fun n os => (HCC.out _ (HGB.out n os)).1
            have z1 : ∀ n os, (Go.Sort.grow (wr.drewN n) os).cell? ⟨zb, zo + (k + 1) * 2 + 1, none⟩ = some (.string x2') := fun n os => (HCC.out _ (HGB.out n os)).2
            have z2 : ∀ n os, (Go.Sort.grow (wr.drewN n) os).cell? ⟨zb, zo + k * 2, none⟩ = some (.string y.1) := fun n os => HCQ.out _ (HGB.out n os)
            have hs := str_rf x2'
            have hdn : ¬ (y.1.size : Int) < (x1.size : Int) := by have := HDN.out; simp only at this; omega
            have hdd : decide ((y.1.size : Int) < (x1.size : Int)) = false := decide_eq_false hdn
            have hdN : decide (y.1.size < x1.size) = false := decide_eq_false (by omega)
            have hk4 : decide ((0 : Int) < (k : Int) + 1) = true := decide_eq_true (by omega)
            have hk5 : decide (0 < k + 1) = true := decide_eq_true (by omega)
            have hk6 : decide ((0 : Int) < ((k + 1 : Nat) : Int)) = true := decide_eq_true (by omega)
            have hk8 : wrap64 (k : Int) = (k : Int) := IntWalk.wrap64_in _ (by omega)
            have hk9 : ((k : Int)).toNat = k := by omega
            have hka := ix_pos1 k
            have hkb := ix_lt1 HLT.out
            have hkc := ix_nat1 k
            have hkd : IntKind.i64.wrap ((k : Int) + 1 - 1) = (k : Int) := by rw [IntKind.wrap_i64] <;> omega
            have hke : IntKind.i64.wrap (k : Int) = (k : Int) := by rw [IntKind.wrap_i64] <;> omega
            have hkf : (k : Int) + 1 - 1 = (k : Int) := by omega
            have hk7 : wrap64 ((k : Int) + 1 - 1) = (k : Int) := by rw [IntWalk.wrap64_in _ (by omega)]; omega
            have hkI : (k : Int) < ((whX Q L p).length : Int) := by omega
            have hk0 : (0 : Int) < ((k + 1 : Nat) : Int) := by omega
            have hk1 : wrap64 (((k + 1 : Nat) : Int) - 1) = (k : Int) := by rw [IntWalk.wrap64_in _ (by omega)]; omega
            have hk2 : (0 : Int) ≤ (k : Int) := by omega
            generalize y.1 = yp at *
            clear hlt y0 y1 q0
            go_wp2_with fail
            go_quiet_grown (first | (go_at_call 23; refine Calls.grown_of (HCG.out _ _)))
            have HR9 := hid (HGB.out nq osq)
            generalize Go.Sort.grow (wr.drewN nq) osq = wq at *
            clear z0 z1 z2 HCG
            go_wp2_with fail
            go_roundw
            case rel => exact ⟨k + 1 + 1, HLT.out, by first | exact nr_idx _ | exact nx_idx HLT.out (by omega : (whX Q L p).length ≤ 1000000), HR9⟩
            case measure => first | exact nr_meas HLT.out | exact nx_meas HLT.out (by omega : (whX Q L p).length ≤ 1000000)
          · obtain rfl : i = 0 := by omega
            clear hz0
            generalize (whX Q L p)[0] = x at *
            obtain ⟨x1, x2'⟩ := x
            have HCG := hid (show ∀ n os, Calls Tryz.prog 23 #[.slice oa Q.length oc, .string x1] (Go.Sort.grow (wr.drewN n) os) fun e w' => e = .returned (.string x2') ∧ ∃ q os', w' = Go.Sort.grow ((Go.Sort.grow (wr.drewN n) os).drewN q) os' from fun n os => HLG.out _ x1 x2' (fun Y hK => (latV_of hK).trans HLV.out.1.symm) (HGB.out n os))
            have z0 : ∀ n os, (Go.Sort.grow (wr.drewN n) os).cell? ⟨zb, zo, none⟩ = some (.string x1) := fun n os => by have := (HCC.out _ (HGB.out n os)).1; rw [Nat.zero_mul, Nat.add_zero] at this; exact this
            have z1 : ∀ n os, (Go.Sort.grow (wr.drewN n) os).cell? ⟨zb, zo + 1, none⟩ = some (.string x2') := fun n os => by have := (HCC.out _ (HGB.out n os)).2; rw [Nat.zero_mul, Nat.add_zero] at this; exact this
            have hs := str_rf x2'
            have hpl : 0 < (whX Q L p).length := HLT.out
            clear hlt y0 y1 hi9 hi0 hiI
            have hpI : (0 : Int) < ((whX Q L p).length : Int) := by omega
            generalize hZn : (whX Q L p).length = Zn at *
            have HZn := hid hZn
            clear hZn
            go_wp2_with fail
            refine wp_region_quiet_grown (by assumption) (by kernel_rfl) ?_
            iterate 3 (quiet_step (fail))
            iterate 14 (refine @wpQuiet_skip _ _ _ _ _ _ _ ?_ ?_; focus kernel_rfl)
            repeat (quiet_step (first | (go_at_call 23; refine Calls.grown_of (HCG.out _ _))))
            refine wpQuiet_nil ?_
            intro _ hw'
            obtain ⟨⟨nq, osq⟩, hw9⟩ := hw'
            subst hw9
            have HR9 := hid (HGB.out nq osq)
            generalize Go.Sort.grow (wr.drewN nq) osq = wq at *
            clear z0 z1 HCG
            go_wp2_with fail
            go_roundw
            case rel => exact ⟨1, hpl, rfl, HR9⟩
            case measure => first | (simp [intOf]; omega) | (show Zn - 1 < Zn - 0; omega)
        · have hiI := ix_nlt hlt
          clear hlt
          have HB6 := hid (HB5.out.trans (HBR.out.mono HB5.out.size))
          have HJ6 := hid (HJ5.out.below HBR.out)
          have HPX := hid (HPP.out Q _ wr HB6.out HJ6.out)
          rw [show tx (risB (bl (pathL Q))) = phX Q from tx_ris _] at HPX
          have HZ6 := hid (HZ5.out.below HBR.out)
          have HWI := hid (fun t (ht : t ∈ phX Q) => wh_in HJ5.out HC.out HSH.out (p := p) ht)
          have HLU := hid (fun t (ht : t ∈ phX Q) => lat_univ HJ5.out HC.out ht)
          have HXL := hid (show (phX Q).length ≤ 1000 from Nat.le_trans (ph_len Q) (by rw [HJ5.out.ln]; omega))
          generalize whX Q L p = Z at *
          generalize phX Q = X at *
          have hXl := HXL.out
          go_wp2_with fail
          refine HPX.out.mono ?_
          rintro e w7 ⟨u, rfl, hu, hb⟩
          have HB7 := hid (HB6.out.trans (hb.mono HB6.out.size))
          have HJ7 := hid (HJ6.out.below hb)
          have HZ7 := hid (HZ6.out.below hb)
          have HX7 := hid (own_tx hu)
          obtain ⟨ua, uc, hus⟩ := own_slN hu
          subst hus
          clear hu hb HPX HJ6 HB6 HZ6 HJ5 HB5 HZ5
          obtain ⟨w6, hw6⟩ : ∃ w6, w6 = wr := ⟨_, rfl⟩
          subst hw6
          go_wp2_with fail
          go_loopw [11] (fun iv wr => ∃ i : Nat, i ≤ X.length ∧ iv = .int .i64 i ∧ Hid (Below w7.heap.size w7 wr)) (fun iv _ => X.length - (intOf iv).toNat)
          case atStart => exact ⟨0, Nat.zero_le _, rfl, hid (Below.refl _ _)⟩
          case round =>
            obtain ⟨i, hi9, rfl, HBR⟩ := hrel
            by_cases hlt : i < X.length
            · have hiI := ix_lt hlt
              have hi0 := ix_pos i
              have HLT := hid hlt
              obtain ⟨xb, xo, hxa, y9⟩ := tx_cellK HX7.out hlt
              subst hxa
              have y0 := cell_below HBR.out y9
              have HYW := hid (fun W (h : Below wr.heap.size wr W) => cell_below h y0)
              have HWX := hid (HWI.out X[i] (List.getElem_mem hlt))
              have HUX := hid (HLU.out X[i] (List.getElem_mem hlt))
              generalize X[i] = x at *
              obtain ⟨lx, hlx⟩ : ∃ lx, latV Q x = lx := ⟨_, rfl⟩
              rw [hlx] at HWX HUX
              have HW := hid (fun W' (h : Below wr.heap.size wr W') => HBR.out.trans (h.mono HBR.out.size))
              have HWW := hid (fun W' (h : Below wr.heap.size wr W') => HB7.out.trans ((HW.out W' h).mono HB7.out.size))
              have HJW := hid (fun W' (h : Below wr.heap.size wr W') => HJ7.out.below (HW.out W' h))
              have HLX := hid (fun W' (h : Below wr.heap.size wr W') => show Calls Tryz.prog 23 #[.slice oa Q.length oc, .string x] W' fun e w' => e = .returned (.string lx) ∧ Below W'.heap.size W' w' from
                (HPL.out Q _ x W' (HWW.out W' h) (HJW.out W' h)).mono fun _ _ ⟨Y, h1, h2, h3⟩ => ⟨by rw [h1, latV_of h2, hlx], h3⟩)
              clear hlt y9 hlx
              go_wp2_with fail
              have ya : (wr.alloc (.cells #[.string ⟨#[]⟩, .string ⟨#[]⟩] 38)).cell? ⟨xb, xo + i, none⟩ = some (.string x) := HYW.out _ ((Below.refl _ _).alloc (Nat.le_refl _) _)
              have yb : (wr.drew.alloc (.cells #[.string ⟨#[]⟩, .string ⟨#[]⟩] 38)).cell? ⟨xb, xo + i, none⟩ = some (.string x) := HYW.out _ ((below_drawn wr 1).alloc (Nat.le_refl _) _)
              have hlb := lt_of_cell y0
              simp only at hlb
              have hlb2 : ¬ xb = wr.heap.size := by omega
              have hlb3 : ¬ wr.heap.size = xb := by omega
              refine wp_cut (fun mb W => Hid (W.heap[mb]? = some (.cells #[.string x, .string lx] 38 (0, 0))) ∧ Hid (Below wr.heap.size wr W)) ⟨?F, ?reg, ?cont⟩
              case reg =>
                go_region_with (first
                  | (go_at_call 23; refine (HLX.out _ (below_drawn wr 1)).mono ?_; rintro e w8 ⟨rfl, hb⟩; have HRa := hid (show Below wr.heap.size wr w8 from (below_drawn wr 1).trans (hb.mono (Nat.le_refl _))); have y7 := HYW.out _ HRa.out; have y7a := HYW.out _ (HRa.out.alloc HRa.out.size (.cells #[.string ⟨#[]⟩, .string ⟨#[]⟩] 38)); have hl7 := lt_of_cell y7; simp only at hl7; have hl8 : ¬ xb = w8.heap.size := (by omega); have hl9 : ¬ w8.heap.size = xb := (by omega); clear hb)
                  | (go_at_call 23; refine (HLX.out _ ((below_drawn wr 1).alloc (Nat.le_refl _) _)).mono ?_; rintro e w8 ⟨rfl, hb⟩; have HRa := hid (show Below wr.heap.size wr w8 from ((below_drawn wr 1).alloc (Nat.le_refl _) _).trans (hb.mono (by simp))); have y7 := HYW.out _ HRa.out; have HK7 := hid (show w8.heap[wr.heap.size]? = some (.cells #[.string ⟨#[]⟩, .string ⟨#[]⟩] 38 (0, 0)) from (hb.block _ (by simp)).trans (heap_new wr.drew _)); obtain ⟨k0, k1, kf⟩ := bx2 HK7.out; clear hb))
                all_goals
                  first
                    | (change ∃ mb, (Hid _ ∧ Hid _) ∧ _ = _
                       refine ⟨wr.heap.size, ⟨hid (by rw [set_block (set_block HK7.out)]; rfl), hid (put2_below HRa.out (Nat.le_refl _))⟩, ?_⟩
                       generalize wr.heap.size = mb
                       rfl)
                    | (change ∃ mb, (Hid _ ∧ Hid _) ∧ _ = _
                       refine ⟨w8.heap.size, ⟨hid (heap_new w8 _), hid (HRa.out.alloc HRa.out.size _)⟩, ?_⟩
                       generalize w8.heap.size = mb
                       rfl)
              case cont =>
                rintro mb wm ⟨HM8, HR8⟩
                clear ya yb y0 hlb hlb2 hlb3
                obtain ⟨k0, k1, kf⟩ := bx2 HM8.out
                have HBn := hid (HR8.out.alloc HR8.out.size (.cells #[.string x, .string lx] 38))
                have HMn := hid (show MsAt (wm.alloc (.cells #[.string x, .string lx] 38)) (.slice (some ⟨wm.heap.size, 0, none⟩) 1 1) [(x, lx)] from
                  ⟨some ⟨wm.heap.size, 0, none⟩, 1, rfl, Nat.le_refl _, fun _ => ⟨wm.heap.size, 0, rfl, fun j hj => by
                    have : j = 0 := by simp at hj; omega
                    subst this
                    exact ⟨by simp, by simp⟩⟩⟩)
                have HA := hid (HPA.out Q _ [(x, lx)] _ _ (HWW.out _ HBn.out) (by simp) (HJW.out _ HBn.out) HMn.out)
                rw [alF_ok HJ7.out HC.out (R := [(x, lx)]) (fun y hy => by rw [List.mem_singleton.1 hy]; exact HUX.out), alX_ok HJ7.out HC.out (R := [(x, lx)]) (fun y hy => by rw [List.mem_singleton.1 hy]; exact HUX.out)] at HA
                have HM9 := hid ((Below.refl wm.heap.size wm).alloc (Nat.le_refl _) (.cells #[.string x, .string lx] 38))
                go_wp2_with fail
                refine HA.out.mono ?_
                rintro e wa ⟨ov, y, rfl, ho, he, hb⟩
                have HRa := hid (HBn.out.trans (hb.mono HBn.out.size))
                have HMa := hid (show wa.heap[mb]? = some (.cells #[.string x, .string lx] 38 (0, 0)) from ((HM9.out.trans (hb.mono HM9.out.size)).block _ (lt_of_blk HM8.out)).trans HM8.out)
                have hy : y = .nilIface := by
                  rcases he.kind with ⟨-, h0⟩ | ⟨h0, -⟩
                  · exact h0
                  · exact absurd rfl h0
                subst hy
                have HIT := hid (fun W (h : Below wa.heap.size wa W) => inT_any p _ ov W (al_one HSL.out) (ho.below h))
                obtain ⟨oa', oc', ho1, -⟩ := ho
                subst ho1
                have HEQ := hid (show hasB Z (x, lx) = inB p (alN Q L [(x, lx)]) by
                  rw [Bool.eq_iff_iff, hasB_iff, inB_iff, alN_one]
                  exact HWX.out)
                have HZa := hid (fun W (h : Below wa.heap.size wa W) => HZ7.out.below (HW.out W (HRa.out.trans (h.mono HRa.out.size))))
                generalize inB p (alN Q L [(x, lx)]) = bb at *
                clear he hb HA HMn k0 k1 kf
                generalize (alN Q L [(x, lx)]).length = an at *
                go_wp2_with fail
                obtain ⟨wo, hwo⟩ : ∃ wo, wo = wr := ⟨_, rfl⟩
                subst hwo
                go_loopw [15, 16] (fun bv kv wr => ∃ k : Nat, k ≤ Z.length ∧ kv = .int .i64 k ∧ bv = .bool (hasB (Z.take k) (x, lx)) ∧ Hid (Below wa.heap.size wa wr)) (fun _ kv _ => Z.length - (intOf kv).toNat)
                case atStart => exact ⟨0, Nat.zero_le _, rfl, rfl, hid (Below.refl _ _)⟩
                case round =>
                  obtain ⟨k, hk9, rfl, rfl, HBK⟩ := hrel
                  by_cases hlk : k < Z.length
                  · have hkI := ix_lt hlk
                    have hk0 := ix_pos k
                    have HLK := hid hlk
                    obtain ⟨sb, so, hsa, z0, z1⟩ := (HZa.out _ HBK.out).cells hlk
                    subst hsa
                    have HHN := hid (hasB_next hlk (x, lx))
                    obtain ⟨d0, d1, df⟩ := bx2 ((HBK.out.block _ (lt_of_blk HMa.out)).trans HMa.out)
                    generalize Z[k] = zz at *
                    obtain ⟨x1, x2'⟩ := zz
                    generalize hasB (Z.take k) (x, lx) = hb0 at *
                    clear hlk
                    by_cases heq : x1 = x ∧ x2' = lx
                    · obtain ⟨rfl, rfl⟩ := heq
                      have hs1 := str_rf x1
                      have hs2 := str_rf x2'
                      rw [show decide ((x1, x2').1 = x1 ∧ (x1, x2').2 = x2') = true from decide_eq_true ⟨rfl, rfl⟩, Bool.or_true] at HHN
                      cases hb0
                      all_goals
                        go_wp2_with fail
                        go_quiet (fail)
                        have HBz := hid (HBK.out.trans ((below_drawn _ nq).mono HBK.out.size))
                        go_wp2_with fail
                        go_roundw
                        case rel => exact ⟨k + 1, HLK.out, by first | exact nr_idx k | exact nx_idx HLK.out (by omega : Z.length ≤ 1000000), by rw [HHN.out], HBz⟩
                        case measure => first | exact nr_meas HLK.out | exact nx_meas HLK.out (by omega : Z.length ≤ 1000000)
                    · rw [show decide (x = x1 ∧ lx = x2') = false from decide_eq_false (fun h => heq ⟨h.1.symm, h.2.symm⟩), Bool.or_false] at HHN
                      by_cases h1 : x1 = x
                      · have h2 : ¬ x2' = lx := fun h2 => heq ⟨h1, h2⟩
                        clear heq
                        subst h1
                        have hs1 := str_rf x1
                        have hs2 := str_ne h2
                        clear h2
                        cases hb0
                        all_goals
                          go_wp2_with fail
                          go_quiet (fail)
                          have HBz := hid (HBK.out.trans ((below_drawn _ nq).mono HBK.out.size))
                          go_wp2_with fail
                          go_roundw
                          case rel => exact ⟨k + 1, HLK.out, by first | exact nr_idx k | exact nx_idx HLK.out (by omega : Z.length ≤ 1000000), by rw [HHN.out], HBz⟩
                          case measure => first | exact nr_meas HLK.out | exact nx_meas HLK.out (by omega : Z.length ≤ 1000000)
                      · have hs1 := str_ne h1
                        clear heq h1
                        cases hb0
                        all_goals
                          go_wp2_with fail
                          go_quiet (fail)
                          have HBz := hid (HBK.out.trans ((below_drawn _ nq).mono HBK.out.size))
                          go_wp2_with fail
                          go_roundw
                          case rel => exact ⟨k + 1, HLK.out, by first | exact nr_idx k | exact nx_idx HLK.out (by omega : Z.length ≤ 1000000), by rw [HHN.out], HBz⟩
                          case measure => first | exact nr_meas HLK.out | exact nx_meas HLK.out (by omega : Z.length ≤ 1000000)
                  · have hkI := ix_nlt hlk
                    have HTK := hid (show hasB (Z.take k) (x, lx) = bb by rw [List.take_of_length_le (by omega)]; exact HEQ.out)
                    rw [HTK.out]
                    have HI9 := hid (HIT.out _ HBK.out)
                    have HBo := hid (HW.out _ (HRa.out.trans (HBK.out.mono HRa.out.size)))
                    clear hlk
                    cases bb
                    all_goals
                      go_wp2_with fail
                      refine HI9.out.mono ?_
                      rintro e wb ⟨rfl, rfl⟩
                      go_wp2_with fail
                      go_roundw
                      case rel => exact ⟨i + 1, HLT.out, by first | exact nr_idx i | exact nx_idx HLT.out (by omega : X.length ≤ 1000000), HBo⟩
                      case measure => first | exact nr_meas HLT.out | exact nx_meas HLT.out (by omega : X.length ≤ 1000000)
            · have hiI := ix_nlt hlt
              clear hlt
              go_wp2_with fail
              go_ret
              exact ⟨rfl, HB7.out.trans (HBR.out.mono HB7.out.size)⟩
    · exact absurd hc h0
  · have hzl : (whX Q L p).length = 0 := by unfold whX; rw [if_neg hc]; rfl
    rcases he.kind with ⟨h0, -⟩ | ⟨-, T', ea, rfl⟩
    · exact absurd h0 hc
    · rw [hzl]
      clear he hc
      go_wp2_with fail
      go_ret
      exact ⟨rfl, HB5.out⟩
end Ve
end Go.Proofs.YtjndahjfodnllaaGreatDoor


namespace Go.Proofs.YtjndahjfodnllaaGreatDoor
open Go.RowKit Go.Maps
namespace Ve
set_option maxRecDepth 100000 in
set_option maxHeartbeats 2000000 in
theorem pw_long {T : World → Prop} (OC : OfC T) (KT : StayK T) (Q0 : List Raw) (L : List Ent) (p : ByteArray) (v : Value) (A : Nat → Addr) (m : Int) (w : World) (S : Te w A m) (hT : T w) (I : Ixs w v Q0 L) (h : okI L = false ∨ (okI L = true ∧ (¬ L.length ≤ 30 ∨ (L.length ≤ 30 ∧ 100 < p.size)))) :
    Calls Tryz.prog 5 #[v, .string p] w fun e w' => e = .returned (.bool true) ∧ Below w.heap.size w w' := by
  have HIN := hid (packed_any OC KT A m w S hT)
  have HLO := hid (fun W (h : Below w.heap.size w W) => longI_any Q0 L v W (I.below h))
  have hln := I.ln
  obtain ⟨a0, c0, hv0, -⟩ := id I.es
  subst hv0
  rcases h with h | ⟨h, h1 | ⟨h1, h2⟩⟩
  · rw [h] at HLO
    clear S I h OC KT hT hln
    go_enter Tryz.func5, Tryz.ntmps5
    go_wp2_with fail
    refine HIN.out.mono ?_
    rintro e w1 ⟨rfl, hb⟩
    have HB1 := hid hb
    clear hb
    go_wp2_with fail
    refine (HLO.out w1 HB1.out).mono ?_
    rintro e w2 ⟨rfl, hb⟩
    have HB2 := hid (HB1.out.trans (hb.mono HB1.out.size))
    clear hb
    go_wp2_with fail
    go_ret
    exact ⟨rfl, HB2.out⟩
  · rw [if_pos h] at HLO
    have g2 : (30 : Int) < (Q0.length : Int) := by omega
    clear S I h h1 OC KT hT hln
    go_enter Tryz.func5, Tryz.ntmps5
    go_wp2_with fail
    refine HIN.out.mono ?_
    rintro e w1 ⟨rfl, hb⟩
    have HB1 := hid hb
    clear hb
    go_wp2_with fail
    refine (HLO.out w1 HB1.out).mono ?_
    rintro e w2 ⟨rfl, hb⟩
    have HB2 := hid (HB1.out.trans (hb.mono HB1.out.size))
    clear hb
    go_wp2_with fail
    go_ret
    exact ⟨rfl, HB2.out⟩
  · rw [if_pos h] at HLO
    have g1 : (100 : Int) < (p.size : Int) := by omega
    have g2 : ¬ (30 : Int) < (Q0.length : Int) := by omega
    clear S I h h1 h2 OC KT hT hln
    go_enter Tryz.func5, Tryz.ntmps5
    go_wp2_with fail
    refine HIN.out.mono ?_
    rintro e w1 ⟨rfl, hb⟩
    have HB1 := hid hb
    clear hb
    go_wp2_with fail
    refine (HLO.out w1 HB1.out).mono ?_
    rintro e w2 ⟨rfl, hb⟩
    have HB2 := hid (HB1.out.trans (hb.mono HB1.out.size))
    clear hb
    go_wp2_with fail
    go_ret
    exact ⟨rfl, HB2.out⟩
theorem pkgWho_any {T : World → Prop} (OC : OfC T) (AC : AllC T) (WC : WhoC T) (LC : LatC T) (KT : StayK T) (Q0 : List Raw) (L : List Ent) (p : ByteArray) (v : Value) (A : Nat → Addr) (m : Int) (w : World) (S : Te w A m) (hT : T w) (I : Ixs w v Q0 L) (em : EmI Q0 L) :
    Calls Tryz.prog 5 #[v, .string p] w fun e w' => e = .returned (.bool true) ∧ Below w.heap.size w w' := by
  cases hok : okI L with
  | false => exact pw_long OC KT Q0 L p v A m w S hT I (Or.inl hok)
  | true =>
    by_cases h30 : L.length ≤ 30
    · by_cases hp : 100 < p.size
      · exact pw_long OC KT Q0 L p v A m w S hT I (Or.inr ⟨hok, Or.inr ⟨h30, hp⟩⟩)
      · exact pw_main OC AC WC LC KT Q0 L p v A m w S hT I em hok h30 (by omega)
    · exact pw_long OC KT Q0 L p v A m w S hT I (Or.inr ⟨hok, Or.inl h30⟩)
end Ve
end Go.Proofs.YtjndahjfodnllaaGreatDoor


namespace Go.Proofs.YtjndahjfodnllaaGreatDoor
open Go.ChangeShapes Go.WideShapes Go.ChangeAt Go.RowKit Go.ChangeMaps Go.Joins
namespace Ve
theorem oCellsMod : Tryz.prog.cellsOf 38 = 2 := by kernel_rfl
theorem oCellsStr : Tryz.prog.cellsOf 9 = 1 := by kernel_rfl
theorem oCellsEnt : Tryz.prog.cellsOf 61 = 5 := by kernel_rfl
theorem oCellsMods : Tryz.prog.cellsOf 23 = 1 := by kernel_rfl
theorem oCellsSstr : Tryz.prog.cellsOf 33 = 1 := by kernel_rfl
theorem oCellsBool : Tryz.prog.cellsOf 4 = 1 := by kernel_rfl
def strOf : Value → ByteArray
  | .string s => s
  | _ => ⟨#[]⟩
set_option maxRecDepth 100000 in
theorem open_ms {H : Type} {enc : TypeId × Value → H} {w : World} {base fuel : Nat} {held : Bool} {v : Value} {x : DataW H × List MemPlace}
    (h : DataW.trod enc Tryz.prog w base (fun _ => true) held fuel 23 [v] = some x) : ∃ L, MsAt w v L ∧ Em v L := by
  rcases Go.Deep.open_slice_pairs Tryz.underlying23 Tryz.underlying38 oCellsMod rfl rfl oCellsStr oCellsStr h with ⟨hcs, _⟩ | ⟨a, len, cap, m, n, V0, V1, D0, D1, P0, P1, hcs, _, hl, _, hm, _, hx⟩
  · simp only [List.cons.injEq, and_true] at hcs
    subst hcs
    exact ⟨[], ⟨none, 0, rfl, Nat.le_refl _, fun h => absurd rfl h⟩, fun a c e _ => Or.inl e.symm⟩
  · simp only [List.cons.injEq, and_true] at hcs
    subst hcs
    simp only [if_true] at hm
    subst hm
    have hlen : ((List.range len).map fun i => (strOf (V0 i), strOf (V1 i))).length = len := by simp
    refine ⟨(List.range len).map fun i => (strOf (V0 i), strOf (V1 i)), ⟨some a, m, by rw [hlen], by rw [hlen]; exact hl, fun hne => ?_⟩, fun a' c e h0 => ?_⟩
    · have h0l : 0 < len := by rw [← hlen]; exact List.length_pos_iff.2 hne
      obtain ⟨b, off, spot⟩ := a
      have hspot : spot = none := by simpa [Addr.add] using World.cell?_spot (hx 0 (by omega)).1
      subst hspot
      refine ⟨b, off, rfl, fun j hj => ?_⟩
      have hj2 : j < len := by rw [← hlen]; exact hj
      obtain ⟨g0, g1, t0, t1⟩ := hx j (by omega)
      obtain ⟨s0, e0, _, _⟩ := DataW.trod_string Tryz.underlying9 t0
      obtain ⟨s1, e1, _, _⟩ := DataW.trod_string Tryz.underlying9 t1
      simp only [List.cons.injEq, and_true] at e0 e1
      rw [e0] at g0
      rw [e1] at g1
      simp only [List.getElem_map, List.getElem_range, e0, e1]
      rw [Addr.add_lit] at g0 g1
      exact ⟨g0, g1⟩
    · have hz : len = 0 := by rw [← hlen, h0]; rfl
      rw [hlen] at e
      subst hz
      right
      injection e with e1 e2 e3
      exact ⟨a, by rw [← e1]⟩
set_option maxRecDepth 100000 in
theorem open_tx {H : Type} {enc : TypeId × Value → H} {w : World} {base fuel : Nat} {held : Bool} {v : Value} {x : DataW H × List MemPlace}
    (h : DataW.trod enc Tryz.prog w base (fun _ => true) held fuel 33 [v] = some x) : ∃ X, TxAt w v X ∧ EmT v X := by
  rcases open_strings Tryz.underlying33 Tryz.underlying9 oCellsStr h with ⟨hcs, _⟩ | ⟨a, len, cap, ss, hcs, _, hl, _, hm, _, hx, _⟩
  · simp only [List.cons.injEq, and_true] at hcs
    subst hcs
    exact ⟨[], ⟨none, 0, rfl, Nat.le_refl _, fun h => absurd rfl h⟩, fun a c e _ => Or.inl e.symm⟩
  · simp only [List.cons.injEq, and_true] at hcs
    subst hcs
    simp only [if_true] at hm
    have hlen : (ss.take len).length = len := by rw [List.length_take]; omega
    refine ⟨ss.take len, ⟨some a, cap, by rw [hlen], by rw [hlen]; exact hl, fun hne => ?_⟩, fun a' c e h0 => ?_⟩
    · have h0l : 0 < len := by rw [← hlen]; exact List.length_pos_iff.2 hne
      obtain ⟨b, off, spot⟩ := a
      have hspot : spot = none := by simpa [Addr.add] using World.cell?_spot (hx 0 (by omega))
      subst hspot
      refine ⟨b, off, rfl, fun j hj => ?_⟩
      have hj2 : j < len := by rw [← hlen]; exact hj
      have g := hx j (by omega)
      rw [Addr.add_lit, List.getD_eq_getElem?_getD, List.getElem?_eq_getElem (by omega)] at g
      rw [List.getElem_take]
      exact g
    · have hz : len = 0 := by rw [← hlen, h0]; rfl
      rw [hlen] at e
      subst hz
      right
      injection e with e1 e2 e3
      exact ⟨a, by rw [← e1]⟩
set_option maxRecDepth 100000 in
theorem open_ent {H : Type} {enc : TypeId × Value → H} {w : World} {base fuel : Nat} {held : Bool} {cs : List Value} {x : DataW H × List MemPlace}
    (h : DataW.trod enc Tryz.prog w base (fun _ => true) held fuel 61 cs = some x) : ∃ (r : Raw) (e : Ent), cs = rowR r ∧ slR r ∧ RawOk w r e ∧ Em r.2.1 e.2.1 ∧ EmT r.2.2.1 e.2.2.1 := by
  obtain ⟨y0, y1, y2, y3, n, _, hl, h0, h1, h2, h3⟩ := trod_struct4 Tryz.underlying61 h
  rw [oCellsEnt] at hl
  match cs, hl with
  | [c0, c1, c2, c3, c4], _ =>
    simp only [oCellsMod, oCellsMods, oCellsSstr, oCellsBool, List.drop, List.take] at h0 h1 h2 h3
    obtain ⟨z0, z1, n2, _, _, k0, k1⟩ := trod_struct2 Tryz.underlying38 h0
    simp only [oCellsStr, List.drop, List.take] at k0 k1
    obtain ⟨s0, e0, _, _⟩ := DataW.trod_string Tryz.underlying9 k0
    obtain ⟨s1, e1, _, _⟩ := DataW.trod_string Tryz.underlying9 k1
    obtain ⟨R, hR, hER⟩ := open_ms h1
    obtain ⟨X, hX, hEX⟩ := open_tx h2
    obtain ⟨b, e4, _⟩ := DataW.trod_bool Tryz.underlying4 h3
    simp only [List.cons.injEq, and_true] at e0 e1 e4
    subst e0 e1 e4
    refine ⟨((s0, s1), c2, c3, b), ((s0, s1), R, X, b), rfl, ⟨?_, ?_⟩, ⟨rfl, hR, hX, rfl⟩, hER, hEX⟩
    · obtain ⟨a, c, e, _⟩ := hR; exact ⟨_, _, _, e⟩
    · obtain ⟨a, c, e, _⟩ := hX; exact ⟨_, _, _, e⟩
set_option maxRecDepth 100000 in
theorem open_ix {H : Type} {enc : TypeId × Value → H} {w : World} {base fuel : Nat} {held : Bool} {v : Value} {x : DataW H × List MemPlace}
    (h : DataW.trod enc Tryz.prog w base (fun _ => true) held fuel 22 [v] = some x) : ∃ Q L, Ixs w v Q L ∧ EmI Q L := by
  rcases Go.Deep.open_slice Tryz.underlying22 h with ⟨hcs, _⟩ | ⟨a, len, cap, m, n, D, Pl, hcs, _, hl, _, hm, _, hx⟩
  · simp only [List.cons.injEq, and_true] at hcs
    subst hcs
    exact ⟨[], [], ⟨⟨none, 0, rfl, Nat.le_refl _, fun r hr => (by cases hr), fun h => absurd rfl h⟩, rfl, fun j h1 => absurd h1 (Nat.not_lt_zero _)⟩, fun j h1 => absurd h1 (Nat.not_lt_zero _)⟩
  · simp only [List.cons.injEq, and_true] at hcs
    subst hcs
    simp only [if_true] at hm
    subst hm
    have each : ∀ i, i < len → ∃ q : Raw × Ent, (∀ c (hc : c < 5), w.cell? (a.add (i * 5 + c)) = (rowR q.1)[c]?) ∧ slR q.1 ∧ RawOk w q.1 q.2 ∧ Em q.1.2.1 q.2.2.1 ∧ EmT q.1.2.2.1 q.2.2.2.1 := fun i hi => by
      obtain ⟨cs', h1, h2⟩ := hx i (by omega)
      obtain ⟨r, e, hcs, k1, k2, k3, k4⟩ := open_ent h2
      rw [oCellsEnt] at h1
      obtain ⟨_, hlen, hcell⟩ := World.cells?_some h1
      refine ⟨(r, e), fun c hc => ?_, k1, k2, k3, k4⟩
      have := hcell c (by omega)
      rw [Go.Deep.add_add] at this
      rw [this, hcs]
    obtain ⟨q, hq⟩ := Go.Deep.choose_lt each
    have hlq : ((List.range len).map fun i => (q i).1).length = len := by simp
    have hll : ((List.range len).map fun i => (q i).2).length = len := by simp
    refine ⟨(List.range len).map fun i => (q i).1, (List.range len).map fun i => (q i).2, ⟨⟨some a, m, by rw [hlq], by rw [hlq]; exact hl, fun r hr => ?_, fun hne => ?_⟩, by rw [hlq, hll], fun j h1 h2 => ?_⟩, fun j h1 h2 => ?_⟩
    · obtain ⟨i, hi, rfl⟩ := List.mem_map.1 hr
      exact (hq i (List.mem_range.1 hi)).2.1
    · have h0l : 0 < len := by rw [← hlq]; exact List.length_pos_iff.2 hne
      obtain ⟨b, off, spot⟩ := a
      have g0 := (hq 0 h0l).1 0 (by omega)
      have hspot : spot = none := by
        have : ∃ u, World.cell? w ((⟨b, off, spot⟩ : Addr).add (0 * 5 + 0)) = some u := ⟨_, g0⟩
        obtain ⟨u, hu⟩ := this
        simpa [Addr.add] using World.cell?_spot hu
      subst hspot
      refine ⟨b, off, rfl, fun j hj => ?_⟩
      have hj2 : j < len := by rw [← hlq]; exact hj
      have g := (hq j hj2).1
      simp only [List.getElem_map, List.getElem_range]
      refine ⟨?_, ?_, ?_, ?_, ?_⟩
      · have := g 0 (by omega); rw [Addr.add_lit] at this; exact this
      · have := g 1 (by omega); rw [Addr.add_lit] at this; exact this
      · have := g 2 (by omega); rw [Addr.add_lit] at this; exact this
      · have := g 3 (by omega); rw [Addr.add_lit] at this; exact this
      · have := g 4 (by omega); rw [Addr.add_lit] at this; exact this
    · have hj2 : j < len := by rw [← hlq]; exact h1
      simp only [List.getElem_map, List.getElem_range]
      exact (hq j hj2).2.2.1
    · have hj2 : j < len := by rw [← hlq]; exact h1
      simp only [List.getElem_map, List.getElem_range]
      exact (hq j hj2).2.2.2
end Ve
end Go.Proofs.YtjndahjfodnllaaGreatDoor


namespace Go.Proofs.YtjndahjfodnllaaGreatDoor
open Go.ChangeShapes Go.WideShapes Go.ChangeAt Go.RowKit
namespace Ve
theorem wrap_and_shaped {H : Type} {enc : TypeId × Value → H} {a : Assume} {C : Checked} {os : Go.Os} {f : FuncId} {fn : Func} {s : ChangeSpec} {conds : List PathCond} {apart fresh handsOn again : Bool} {X : World → Array Value → Prop}
    (hX : ∀ (w w' : World) (args : Array Value), w.heap = w'.heap → X w args → X w' args)
    (own : ownKnob C.prog.godebug = none) (started : os.Started) (noInit : C.prog.inits.idxOf? f = none) (hfn : C.prog.funcs[f]? = some fn)
    (witness : ∃ (w : World) (tape : Tape) (i : Input), w.os = os ∧ (w.forCall tape i).Shaped C.prog ∧ i.vars = [] ∧ Input.okWide C.prog (w.forCall tape i) .any w.heap.size f i ∧
      ((s.pre enc C.prog fn conds apart (w.forCall tape i).memory i.args ∧ X (w.forCall tape i).memory i.args) ∧ sizedMet enc C.prog fn (OpenSpec.ofChange s) apart (w.forCall tape i).memory i.args) ∧ a.holds C.prog (lone (Frame.enter C.prog f i.args .normal) [] (w.forCall tape i)))
    (contract : ∀ (W : World) (base : Nat) (args : Array Value) (ds gs : List (DataW H)) (before : List MemPlace),
      (∀ (j : Nat) t v, fn.params[j]? = some t → args[j]? = some v → Value.okWide C.prog W .any base t v) →
      DataW.Whole enc C.prog fn.params.toList s.vars apart W args.toList ds gs before → X W args → W.ShapedOpen C.prog →
      Calls C.prog f args W fun e W' => ∃ v, e = .returned v ∧ s.post enc C.prog fn apart fresh handsOn again W args v W') :
    ReturnsInHanded a C os f .any (fun w args => (s.pre enc C.prog fn conds apart w args ∧ X w args) ∧ sizedMet enc C.prog fn (OpenSpec.ofChange s) apart w args) (s.post enc C.prog fn apart fresh handsOn again) := by
  refine returnsInHanded_of_calls own started noInit witness ?_
  intro w tape i _ hsh _ hok hpre _
  obtain ⟨_, _, _, fn', hfn', _, _, _, _, hval⟩ := hok
  have e : fn' = fn := Option.some.inj (hfn'.symm.trans hfn)
  subst e
  obtain ⟨⟨⟨ds, gs, before, hw, _⟩, hx⟩, _⟩ := hpre
  have hw' := DataW.Whole.of_heap (w' := w.forCall tape i) (by rfl) hw
  refine (contract (w.forCall tape i) w.heap.size i.args ds gs before hval hw' (hX _ _ _ (by rfl) hx) hsh).mono fun e W' ⟨v, he, hp⟩ => ?_
  subst he
  exact ChangeSpec.post_blind hp
theorem laidMet_over {P : Program} {w0 : World} {laid : List (String × DataW Unit)} (args : Array Value)
    (hf : w0.layFits P laid [] = true) (hi : w0.layIfaces P laid (w0.layVars P laid) = true) :
    laidMet P laid ((w0.layVars P laid).forCall (fun _ _ => 0) ⟨#[], args, []⟩).memory := by
  have e1 : (laid.filter fun x => (laid.map (·.1)).contains x.1) = laid := List.filter_eq_self.2 fun x hx => List.contains_iff_mem.2 (List.mem_map.2 ⟨x, hx, rfl⟩)
  have e2 : (laid.filter fun x => !(laid.map (·.1)).contains x.1) = [] := List.filter_eq_nil_iff.2 fun x hx => by rw [List.contains_iff_mem.2 (List.mem_map.2 ⟨x, hx, rfl⟩)]; simp
  have h : laidMet P laid (w0.layVars P laid) := laidMet_layVars (w0 := w0) (laid.map (·.1)) [] (by rw [e1]) (by rw [e1]; exact hf) (by rw [e1]; exact hi) (by rw [e2]; exact LaidIn.none)
  exact h.of_heap (by simp [World.memory, World.forCall, Input.heap])
end Ve
end Go.Proofs.YtjndahjfodnllaaGreatDoor
