
import Derived.Test.YtpafkniapacfdaaGreatDoorSs33
import Derived.Test.YtpafkniapacfdaaGreatDoorSs34
import Derived.Test.YtpafkniapacfdaaGreatDoorSs7
import Derived.Test.YtpafkniapacfdaaGreatDoorSs25
import Derived.Test.YtpafkniapacfdaaGreatDoorSs27
import Derived.Test.YtpafkniapacfdaaGreatDoorSs12
import Derived.Test.YtpafkniapacfdaaGreatDoorSs24
import Derived.Deep.RegionHeld
namespace Go.Proofs.YtpafkniapacfdaaGreatDoor
open Go.RowKit Go.Maps
namespace Ve
def qa0 : Bm := (⟨#[97]⟩, ⟨#[118, 49, 46, 48, 46, 48]⟩)
def qa1 : Bm := (⟨#[97]⟩, ⟨#[118, 49, 46, 49, 46, 48]⟩)
def qb0 : Bm := (⟨#[98]⟩, ⟨#[118, 48, 46, 49, 46, 48]⟩)
def qb1 : Bm := (⟨#[98]⟩, ⟨#[118, 48, 46, 50, 46, 48, 45, 114, 99]⟩)
def s3L : List Ent := [(qa0, [], [⟨#[46]⟩, ⟨#[120]⟩], false), (qa1, [qb0], [⟨#[46]⟩], false), (qb0, [], [], false), (qb1, [], [], false)]
def s3Q (g : Nat) : List Raw := [(qa0, .slice none 0 0, .slice (some ⟨g, 0, none⟩) 2 2, false), (qa1, .slice (some ⟨g + 1, 0, none⟩) 1 1, .slice (some ⟨g + 2, 0, none⟩) 1 1, false), (qb0, .slice none 0 0, .slice none 0 0, false), (qb1, .slice none 0 0, .slice none 0 0, false)]
theorem s3_e0 : entE s3L 0 = 0 := by
  show entW none _ = 0
  rw [entW_none (by kernel_rfl), entR_pack (by decide) (by kernel_rfl)]
  exact pk_rise (by decide) (by kernel_rfl) (fun j hj => by
    have : j = 0 := by simp [bl] at hj; omega
    subst this; exact of_decide_eq_true (by kernel_rfl))
theorem s3_e1 : entE s3L 1 = 0 := by
  show entW (some _) _ = 0
  rw [entW_some (by kernel_rfl) (by kernel_rfl), entR_pack (by decide) (by kernel_rfl)]
  exact pk_rise (by decide) (by kernel_rfl) (fun j hj => by simp [bl] at hj)
theorem s3_e2 : entE s3L 2 = 0 := by
  show entW (some _) _ = 0
  rw [entW_some (by kernel_rfl) (by kernel_rfl), entR_pack (by decide) (by kernel_rfl)]
  exact pk_rise (by decide) (by kernel_rfl) (fun j hj => by simp [bl] at hj)
theorem s3_e3 : entE s3L 3 = 0 := by
  show entW (some _) _ = 0
  rw [entW_some (by kernel_rfl) (by kernel_rfl), entR_pack (by decide) (by kernel_rfl)]
  exact pk_rise (by decide) (by kernel_rfl) (fun j hj => by simp [bl] at hj)
theorem s3_chk (g : Nat) : chk (s3Q g) s3L = (0, none) := by
  have h2 : ∀ j, j < 4 → entE s3L j = 0 := fun j hj => by
    rcases (by omega : j = 0 ∨ j = 1 ∨ j = 2 ∨ j = 3) with rfl | rfl | rfl | rfl
    · exact s3_e0
    · exact s3_e1
    · exact s3_e2
    · exact s3_e3
  have h : fstE (entE s3L) s3L.length = none := fstE_none h2
  rw [chk_reqs (by decide) h]
  exact Prod.ext (show codeE (reqE2 (s3Q g) s3L) s3L.length = 0 by kernel_rfl) (show fstE (reqE2 (s3Q g) s3L) s3L.length = none by kernel_rfl)
theorem s3_sh : ∀ e, e ∈ s3L → ShE e := fun e he => by
  have : e = s3L[0] ∨ e = s3L[1] ∨ e = s3L[2] ∨ e = s3L[3] := by simpa [s3L] using he
  rcases this with rfl | rfl | rfl | rfl
  · exact ⟨by decide, by decide, by decide, fun m hm => (by cases hm), by decide, fun x hx => (by
      have : x = ⟨#[46]⟩ ∨ x = ⟨#[120]⟩ := by simpa [s3L] using hx
      rcases this with rfl | rfl <;> decide)⟩
  · exact ⟨by decide, by decide, by decide, fun m hm => (by have : m = qb0 := List.mem_singleton.1 hm
                                                            subst this; exact ⟨by decide, by decide⟩), by decide, fun x hx => (by have : x = ⟨#[46]⟩ := List.mem_singleton.1 hx
                                                                                                                                  subst this; decide)⟩
  · exact ⟨by decide, by decide, by decide, fun m hm => (by cases hm), by decide, fun x hx => (by cases hx)⟩
  · exact ⟨by decide, by decide, by decide, fun m hm => (by cases hm), by decide, fun x hx => (by cases hx)⟩
theorem s3_ixs {W : World} {g q : Nat} (hb : W.heap[q]? = some (.cells #[.string ⟨#[97]⟩, .string ⟨#[118, 49, 46, 48, 46, 48]⟩, .slice none 0 0, .slice (some ⟨g, 0, none⟩) 2 2, .bool false, .string ⟨#[97]⟩, .string ⟨#[118, 49, 46, 49, 46, 48]⟩, .slice (some ⟨g + 1, 0, none⟩) 1 1, .slice (some ⟨g + 2, 0, none⟩) 1 1, .bool false, .string ⟨#[98]⟩, .string ⟨#[118, 48, 46, 49, 46, 48]⟩, .slice none 0 0, .slice none 0 0, .bool false, .string ⟨#[98]⟩, .string ⟨#[118, 48, 46, 50, 46, 48, 45, 114, 99]⟩, .slice none 0 0, .slice none 0 0, .bool false] 55 (0, 0)))
    (hp : W.heap[g]? = some (.cells #[.string ⟨#[46]⟩, .string ⟨#[120]⟩] 9 (0, 0))) (hg : W.heap[g + 1]? = some (.cells #[.string ⟨#[98]⟩, .string ⟨#[118, 48, 46, 49, 46, 48]⟩] 42 (0, 0))) (hd : W.heap[g + 2]? = some (.cells #[.string ⟨#[46]⟩] 9 (0, 0))) :
    Ixs W (.slice (some ⟨q, 0, none⟩) 4 4) (s3Q g) s3L := by
  have msn : MsAt W (.slice none 0 0) [] := ⟨none, 0, rfl, Nat.le_refl _, fun h => absurd rfl h⟩
  have txn : TxAt W (.slice none 0 0) [] := ⟨none, 0, rfl, Nat.le_refl _, fun h => absurd rfl h⟩
  have msb : MsAt W (.slice (some ⟨g + 1, 0, none⟩) 1 1) [qb0] := ⟨some ⟨g + 1, 0, none⟩, 1, rfl, Nat.le_refl _, fun _ => ⟨g + 1, 0, rfl, fun j hj => by
    have : j = 0 := by simp at hj; exact hj
    subst this
    refine ⟨?_, ?_⟩ <;> (rw [Lib.cell_of_heap hg]; rfl)⟩⟩
  have tx1 : TxAt W (.slice (some ⟨g, 0, none⟩) 2 2) [⟨#[46]⟩, ⟨#[120]⟩] := ⟨some ⟨g, 0, none⟩, 2, rfl, Nat.le_refl _, fun _ => ⟨g, 0, rfl, fun j hj => by
    have hj2 : j < 2 := hj
    rcases (by omega : j = 0 ∨ j = 1) with rfl | rfl
    · rw [Lib.cell_of_heap hp]; rfl
    · rw [Lib.cell_of_heap hp]; rfl⟩⟩
  have tx2 : TxAt W (.slice (some ⟨g + 2, 0, none⟩) 1 1) [⟨#[46]⟩] := ⟨some ⟨g + 2, 0, none⟩, 1, rfl, Nat.le_refl _, fun _ => ⟨g + 2, 0, rfl, fun j hj => by
    have : j = 0 := by simp at hj; exact hj
    subst this
    rw [Lib.cell_of_heap hd]; rfl⟩⟩
  refine ⟨⟨some ⟨q, 0, none⟩, 4, rfl, Nat.le_refl _, fun r hr => ?_, fun _ => ⟨q, 0, rfl, fun j hj => ?_⟩⟩, rfl, fun j h1 h2 => ?_⟩
  · rcases List.mem_cons.1 hr with rfl | hr
    · exact ⟨⟨none, 0, 0, rfl⟩, _, _, _, rfl⟩
    rcases List.mem_cons.1 hr with rfl | hr
    · exact ⟨⟨_, _, _, rfl⟩, _, _, _, rfl⟩
    rcases List.mem_cons.1 hr with rfl | hr
    · exact ⟨⟨none, 0, 0, rfl⟩, none, 0, 0, rfl⟩
    rw [List.mem_singleton.1 hr]
    exact ⟨⟨none, 0, 0, rfl⟩, none, 0, 0, rfl⟩
  · have hj2 : j < 4 := hj
    rcases (by omega : j = 0 ∨ j = 1 ∨ j = 2 ∨ j = 3) with rfl | rfl | rfl | rfl
    · refine ⟨?_, ?_, ?_, ?_, ?_⟩ <;> (rw [Lib.cell_of_heap hb]; rfl)
    · refine ⟨?_, ?_, ?_, ?_, ?_⟩ <;> (rw [Lib.cell_of_heap hb]; rfl)
    · refine ⟨?_, ?_, ?_, ?_, ?_⟩ <;> (rw [Lib.cell_of_heap hb]; rfl)
    · refine ⟨?_, ?_, ?_, ?_, ?_⟩ <;> (rw [Lib.cell_of_heap hb]; rfl)
  · have hj2 : j < 4 := h1
    rcases (by omega : j = 0 ∨ j = 1 ∨ j = 2 ∨ j = 3) with rfl | rfl | rfl | rfl
    · exact ⟨rfl, msn, tx1, rfl⟩
    · exact ⟨rfl, msb, tx2, rfl⟩
    · exact ⟨rfl, msn, txn, rfl⟩
    · exact ⟨rfl, msn, txn, rfl⟩
set_option maxHeartbeats 2000000 in
theorem small3_any (w : World) : Calls Tryz.prog 24 #[] w fun e w' => ∃ g q, e = .returned (.slice (some ⟨q, 0, none⟩) 4 4) ∧ Ixs w' (.slice (some ⟨q, 0, none⟩) 4 4) (s3Q g) s3L ∧ Below w.heap.size w w' := by
  have a1 := heap_new w (.cells #[.string ⟨#[46]⟩, .string ⟨#[120]⟩] 9)
  have z1 : (w.alloc (.cells #[.string ⟨#[46]⟩, .string ⟨#[120]⟩] 9)).heap.size = w.heap.size + 1 := by simp
  have b1 := (Below.refl w.heap.size w).alloc (Nat.le_refl _) (.cells #[.string ⟨#[46]⟩, .string ⟨#[120]⟩] 9)
  obtain ⟨w1, hw1⟩ : ∃ w1, w.alloc (.cells #[.string ⟨#[46]⟩, .string ⟨#[120]⟩] 9) = w1 := ⟨_, rfl⟩
  rw [hw1] at a1 z1 b1
  have a2 := heap_new w1 (.cells #[.string ⟨#[98]⟩, .string ⟨#[118, 48, 46, 49, 46, 48]⟩] 42)
  have c1 := heap_old w1 (.cells #[.string ⟨#[98]⟩, .string ⟨#[118, 48, 46, 49, 46, 48]⟩] 42) a1
  have b2 := b1.alloc b1.size (.cells #[.string ⟨#[98]⟩, .string ⟨#[118, 48, 46, 49, 46, 48]⟩] 42)
  have z2 : (w1.alloc (.cells #[.string ⟨#[98]⟩, .string ⟨#[118, 48, 46, 49, 46, 48]⟩] 42)).heap.size = w.heap.size + 2 := by simp [z1]
  rw [z1] at a2
  obtain ⟨w2, hw2⟩ : ∃ w2, w1.alloc (.cells #[.string ⟨#[98]⟩, .string ⟨#[118, 48, 46, 49, 46, 48]⟩] 42) = w2 := ⟨_, rfl⟩
  rw [hw2] at a2 c1 b2 z2
  have a3 := heap_new w2 (.cells #[.string ⟨#[46]⟩] 9)
  have c2 := heap_old w2 (.cells #[.string ⟨#[46]⟩] 9) c1
  have d2 := heap_old w2 (.cells #[.string ⟨#[46]⟩] 9) a2
  have b3 := b2.alloc b2.size (.cells #[.string ⟨#[46]⟩] 9)
  have z3 : (w2.alloc (.cells #[.string ⟨#[46]⟩] 9)).heap.size = w.heap.size + 3 := by simp [z2]
  rw [z2] at a3
  obtain ⟨w3, hw3⟩ : ∃ w3, w2.alloc (.cells #[.string ⟨#[46]⟩] 9) = w3 := ⟨_, rfl⟩
  rw [hw3] at a3 c2 d2 b3 z3
  have a4 := heap_new w3 (.cells #[.string ⟨#[97]⟩, .string ⟨#[118, 49, 46, 48, 46, 48]⟩, .slice none 0 0, .slice (some ⟨w.heap.size, 0, none⟩) 2 2, .bool false, .string ⟨#[97]⟩, .string ⟨#[118, 49, 46, 49, 46, 48]⟩, .slice (some ⟨w.heap.size + 1, 0, none⟩) 1 1, .slice (some ⟨w.heap.size + 2, 0, none⟩) 1 1, .bool false, .string ⟨#[98]⟩, .string ⟨#[118, 48, 46, 49, 46, 48]⟩, .slice none 0 0, .slice none 0 0, .bool false, .string ⟨#[98]⟩, .string ⟨#[118, 48, 46, 50, 46, 48, 45, 114, 99]⟩, .slice none 0 0, .slice none 0 0, .bool false] 55)
  have c3 := heap_old w3 (.cells #[.string ⟨#[97]⟩, .string ⟨#[118, 49, 46, 48, 46, 48]⟩, .slice none 0 0, .slice (some ⟨w.heap.size, 0, none⟩) 2 2, .bool false, .string ⟨#[97]⟩, .string ⟨#[118, 49, 46, 49, 46, 48]⟩, .slice (some ⟨w.heap.size + 1, 0, none⟩) 1 1, .slice (some ⟨w.heap.size + 2, 0, none⟩) 1 1, .bool false, .string ⟨#[98]⟩, .string ⟨#[118, 48, 46, 49, 46, 48]⟩, .slice none 0 0, .slice none 0 0, .bool false, .string ⟨#[98]⟩, .string ⟨#[118, 48, 46, 50, 46, 48, 45, 114, 99]⟩, .slice none 0 0, .slice none 0 0, .bool false] 55) c2
  have d3 := heap_old w3 (.cells #[.string ⟨#[97]⟩, .string ⟨#[118, 49, 46, 48, 46, 48]⟩, .slice none 0 0, .slice (some ⟨w.heap.size, 0, none⟩) 2 2, .bool false, .string ⟨#[97]⟩, .string ⟨#[118, 49, 46, 49, 46, 48]⟩, .slice (some ⟨w.heap.size + 1, 0, none⟩) 1 1, .slice (some ⟨w.heap.size + 2, 0, none⟩) 1 1, .bool false, .string ⟨#[98]⟩, .string ⟨#[118, 48, 46, 49, 46, 48]⟩, .slice none 0 0, .slice none 0 0, .bool false, .string ⟨#[98]⟩, .string ⟨#[118, 48, 46, 50, 46, 48, 45, 114, 99]⟩, .slice none 0 0, .slice none 0 0, .bool false] 55) d2
  have e3 := heap_old w3 (.cells #[.string ⟨#[97]⟩, .string ⟨#[118, 49, 46, 48, 46, 48]⟩, .slice none 0 0, .slice (some ⟨w.heap.size, 0, none⟩) 2 2, .bool false, .string ⟨#[97]⟩, .string ⟨#[118, 49, 46, 49, 46, 48]⟩, .slice (some ⟨w.heap.size + 1, 0, none⟩) 1 1, .slice (some ⟨w.heap.size + 2, 0, none⟩) 1 1, .bool false, .string ⟨#[98]⟩, .string ⟨#[118, 48, 46, 49, 46, 48]⟩, .slice none 0 0, .slice none 0 0, .bool false, .string ⟨#[98]⟩, .string ⟨#[118, 48, 46, 50, 46, 48, 45, 114, 99]⟩, .slice none 0 0, .slice none 0 0, .bool false] 55) a3
  have b4 := b3.alloc b3.size (.cells #[.string ⟨#[97]⟩, .string ⟨#[118, 49, 46, 48, 46, 48]⟩, .slice none 0 0, .slice (some ⟨w.heap.size, 0, none⟩) 2 2, .bool false, .string ⟨#[97]⟩, .string ⟨#[118, 49, 46, 49, 46, 48]⟩, .slice (some ⟨w.heap.size + 1, 0, none⟩) 1 1, .slice (some ⟨w.heap.size + 2, 0, none⟩) 1 1, .bool false, .string ⟨#[98]⟩, .string ⟨#[118, 48, 46, 49, 46, 48]⟩, .slice none 0 0, .slice none 0 0, .bool false, .string ⟨#[98]⟩, .string ⟨#[118, 48, 46, 50, 46, 48, 45, 114, 99]⟩, .slice none 0 0, .slice none 0 0, .bool false] 55)
  rw [z3] at a4
  have HX := hid (s3_ixs a4 c3 d3 e3)
  have HB := hid b4
  subst hw3 hw2 hw1
  clear a1 a2 a3 a4 b1 b2 b3 b4 c1 c2 c3 d2 d3 e3
  go_enter Tryz.func24, Tryz.ntmps24
  go_wp2_with fail
  go_ret
  exact ⟨w.heap.size, w.heap.size + 3, rfl, HX.out, HB.out⟩
end Ve
end Go.Proofs.YtpafkniapacfdaaGreatDoor


namespace Go.Proofs.YtpafkniapacfdaaGreatDoor
open Go.RowKit
namespace Ve
set_option maxRecDepth 100000 in
set_option maxHeartbeats 4000000 in
theorem rso_any (e : Ent) (ra rc pa pc : _) (w : World) (h : OkE e) (hr : MsAt w (.slice ra e.2.1.length rc) e.2.1) (hp : TxAt w (.slice pa e.2.2.1.length pc) e.2.2.1) :
    Calls Tryz.prog 17 #[.agg #[.string e.1.1, .string e.1.2, .slice ra e.2.1.length rc, .slice pa e.2.2.1.length pc, .bool e.2.2.2]] w fun en w' => en = .returned (.int .i64 (sumE e : Nat)) ∧ Below w.heap.size w w' := by
  obtain ⟨⟨p, v⟩, R, P, bk⟩ := e
  have HO := hid h
  have HSU := hid (show sumE ((p, v), R, P, bk) = crcL (sumT ((p, v), R, P, bk)) from rfl)
  have HST := hid (sumT_is ((p, v), R, P, bk))
  have HTL := hid (sumT_len h)
  have HRB := hid (reqs_bd h)
  have HPB := hid (packs_bd h)
  dsimp only at hr hp HST HTL HRB HPB ⊢
  have HCR := hid (fun (s : ByteArray) (W : World) (hs : s.size ≤ 1000000) => rcrc_any s W hs)
  generalize sumE ((p, v), R, P, bk) = z at *
  generalize sumT ((p, v), R, P, bk) = T at *
  have HB0 := hid ((Below.refl w.heap.size w).alloc (Nat.le_refl _) (.cells #[.string p, .string v, .slice ra R.length rc, .slice pa P.length pc, .bool bk] 55))
  obtain ⟨w1, HW1⟩ : ∃ w1, Hid (w1 = w.alloc (.cells #[.string p, .string v, .slice ra R.length rc, .slice pa P.length pc, .bool bk] 55)) := ⟨_, hid rfl⟩
  have HZ1 := hid (show w1.heap.size = w.heap.size + 1 by rw [HW1.out]; simp)
  have HB1 := hid (show Below w.heap.size w w1 by rw [HW1.out]; exact HB0.out)
  have HR := hid (fun W (hW : Below w1.heap.size w1 W) => hr.below (HB1.out.trans (hW.mono HB1.out.size)))
  have HP := hid (fun W (hW : Below w1.heap.size w1 W) => hp.below (HB1.out.trans (hW.mono HB1.out.size)))
  have HCE := hid (fun W (hW : Below w1.heap.size w1 W) => res5 (w := w) (a := .string p) (b := .string v) (c := .slice ra R.length rc) (d := .slice pa P.length pc) (e := .bool bk) (T := 55) (w3 := W) (by
    have := hW; rw [HZ1.out] at this; rw [← HW1.out]; exact this))
  clear hr hp h
  have hz := HO.out.m
  have g1 : p.size < 999999 := by have := hz.1; dsimp only at this; omega
  have g2 : v.size < 999999 := by have := hz.2; dsimp only at this; omega
  clear hz
  go_enter Tryz.func17, Tryz.ntmps17
  go_wp2_with fail
  rw [← HW1.out]
  refine (modTxt_any p v _ g1 g2).mono ?_
  rintro e w2 ⟨T0, rfl, hT0, hb⟩
  have HB2 := hid hb
  have HSE := hid (show (T0 ++ (⟨#[10]⟩ : ByteArray)).data.toList = modL (p, v) ++ (R.take 0).flatMap modL by simp [modL, hT0])
  have HSZ := hid (show (T0 ++ (⟨#[10]⟩ : ByteArray)).size ≤ 132 by rw [← len_eq, HSE.out, List.take_zero, List.flatMap_nil, List.append_nil]; exact modL_len HO.out.m)
  have ht0 : T0.size ≤ 132 := by have h := HSZ.out; rw [ByteArray.size_append] at h; omega
  clear hT0 hb
  obtain ⟨c0, c1, c2, c3, c4⟩ := HCE.out w2 HB2.out
  go_wp2_with fail
  go_loopw [3, 4] (fun u i wr => ∃ (k : Nat) (U : ByteArray), k ≤ R.length ∧ i = .int .i64 k ∧ u = .string U ∧ Hid (Below w1.heap.size w1 wr) ∧ Hid (U.data.toList = modL (p, v) ++ (R.take k).flatMap modL)) (fun _ i _ => R.length - (intOf i).toNat)
  case atStart => exact ⟨0, _, Nat.zero_le _, rfl, rfl, HB2, HSE⟩
  case round =>
    clear c0 c1 c2 c3 c4
    obtain ⟨k, U, hk, rfl, rfl, HBk, HUk⟩ := hrel
    have hrn : R.length ≤ 25 := HO.out.rn
    obtain ⟨c0, c1, c2, c3, c4⟩ := HCE.out wr HBk.out
    by_cases hlk : k < R.length
    · obtain ⟨xb, xo, hxa, y0, y1⟩ := (HR.out _ HBk.out).cells hlk
      subst hxa
      have hkI := ix_lt hlk
      have hk0 := ix_pos k
      have hz := HO.out.rs R[k] (List.getElem_mem hlk)
      have HFN := hid (flat_next modL hlk)
      have HLK := hid hlk
      have hus : U.size ≤ 3500 := by rw [← len_eq, HUk.out]; exact HRB.out k
      generalize R[k] = x at *
      obtain ⟨x1, x2⟩ := x
      dsimp only at y0 y1
      have h1 : x1.size < 999999 := by have := hz.1; dsimp only at this; omega
      have h2 : x2.size < 999999 := by have := hz.2; dsimp only at this; omega
      have HML := hid (modL_len (m := (x1, x2)) hz)
      clear hlk hz
      go_wp2_with fail
      refine (modTxt_any x1 x2 _ h1 h2).mono ?_
      rintro e w4 ⟨T1, rfl, hT1, hb⟩
      have HB4 := hid (HBk.out.trans (hb.mono HBk.out.size))
      have HSE1 := hid (show (T1 ++ (⟨#[10]⟩ : ByteArray)).data.toList = modL (x1, x2) by simp [modL, hT1])
      have ht1 : T1.size ≤ 132 := by
        have h : (T1 ++ (⟨#[10]⟩ : ByteArray)).size ≤ 132 := by rw [← len_eq, HSE1.out]; exact HML.out
        rw [ByteArray.size_append] at h; omega
      have HUN := hid (show ((U ++ T1) ++ (⟨#[10]⟩ : ByteArray)).data.toList = modL (p, v) ++ (R.take (k + 1)).flatMap modL by
        rw [HFN.out, ← List.append_assoc, ← HUk.out, ← HSE1.out]; simp)
      clear hT1 hb
      go_wp2_with fail
      go_roundw
      case rel => first | exact ⟨k + 1, _, HLK.out, nx_idx HLK.out (by omega), rfl, HB4, HUN⟩ | exact ⟨k + 1, _, HLK.out, nr_idx k, rfl, HB4, HUN⟩
      case measure => first | exact nx_meas HLK.out (by omega) | exact nr_meas HLK.out
    · have hkI := ix_nlt hlk
      have HTK := hid (show R.take k = R from List.take_of_length_le (by omega))
      rw [HTK.out] at HUk
      have HU6 := hid (show U.data.toList = modL (p, v) ++ R.flatMap modL ++ (P.take 0).flatMap packB by rw [List.take_zero, List.flatMap_nil, List.append_nil]; exact HUk.out)
      obtain ⟨wo, hwo⟩ : ∃ wo, wo = wr := ⟨_, rfl⟩
      subst hwo
      go_wp2_with fail
      go_loopw [3, 5] (fun u i wr => ∃ (k : Nat) (U : ByteArray), k ≤ P.length ∧ i = .int .i64 k ∧ u = .string U ∧ Hid (Below w1.heap.size w1 wr) ∧ Hid (U.data.toList = modL (p, v) ++ R.flatMap modL ++ (P.take k).flatMap packB)) (fun _ i _ => P.length - (intOf i).toNat)
      case atStart => exact ⟨0, _, Nat.zero_le _, rfl, rfl, HBk, HU6⟩
      case round =>
        clear c0 c1 c2 c3 c4 hkI hlk hk
        obtain ⟨k, U, hk, rfl, rfl, HBk, HUk⟩ := hrel
        have hpn : P.length ≤ 15 := HO.out.pn
        obtain ⟨c0, c1, c2, c3, c4⟩ := HCE.out wr HBk.out
        have hus : U.size ≤ 5000 := by rw [← len_eq, HUk.out]; exact HPB.out k
        by_cases hlk : k < P.length
        · obtain ⟨xb, xo, hxa, y0⟩ := (HP.out _ HBk.out).cellS hlk
          subst hxa
          have hkI := ix_lt hlk
          have hk0 := ix_pos k
          have hz := HO.out.ps P[k] (List.getElem_mem hlk)
          have HFN := hid (flat_next packB hlk)
          have HLK := hid hlk
          generalize P[k] = x at *
          have HUN := hid (show (((U ++ (⟨#[47]⟩ : ByteArray)) ++ x) ++ (⟨#[10]⟩ : ByteArray)).data.toList = modL (p, v) ++ R.flatMap modL ++ (P.take (k + 1)).flatMap packB by
            rw [HFN.out, ← List.append_assoc, ← HUk.out]; simp [packB])
          clear hlk
          go_wp2_with fail
          go_roundw
          case rel => first | exact ⟨k + 1, _, HLK.out, nx_idx HLK.out (by omega), rfl, HBk, HUN⟩ | exact ⟨k + 1, _, HLK.out, nr_idx k, rfl, HBk, HUN⟩
          case measure => first | exact nx_meas HLK.out (by omega) | exact nr_meas HLK.out
        · have hkI := ix_nlt hlk
          have HTK := hid (show P.take k = P from List.take_of_length_le (by omega))
          rw [HTK.out] at HUk
          cases bk
          · have HE := hid (show U.data.toList = T by rw [HST.out, HUk.out]; simp)
            have HC := hid (HCR.out U wr (by omega))
            rw [HE.out, ← HSU.out] at HC
            go_wp2_with fail
            refine HC.out.mono ?_
            rintro e w5 ⟨rfl, rfl⟩
            go_wp2_with fail
            go_ret
            exact ⟨rfl, HB1.out.trans (HBk.out.mono HB1.out.size)⟩
          · have HE := hid (show (U ++ (⟨#[45]⟩ : ByteArray)).data.toList = T by rw [HST.out, ByteArray.toList_data_append, HUk.out]; simp)
            have HC := hid (HCR.out (U ++ (⟨#[45]⟩ : ByteArray)) wr (by rw [ByteArray.size_append]; have : (⟨#[45]⟩ : ByteArray).size = 1 := rfl; omega))
            rw [HE.out, ← HSU.out] at HC
            go_wp2_with fail
            refine HC.out.mono ?_
            rintro e w5 ⟨rfl, rfl⟩
            go_wp2_with fail
            go_ret
            exact ⟨rfl, HB1.out.trans (HBk.out.mono HB1.out.size)⟩
end Ve
end Go.Proofs.YtpafkniapacfdaaGreatDoor


namespace Go.Proofs.YtpafkniapacfdaaGreatDoor
open Go.RowKit
namespace Ve
def shortN (X : List Ln) : Prop := ∀ x, x ∈ X → x.1.1.size < 999999 ∧ x.1.2.size < 999999
theorem txE_0 {X : List Ln} (h : 0 < X.length) : txE X 0 = exW none X[0].1 := by
  unfold txE
  rw [exE_0 (by simpa using h)]; simp
theorem txE_1 {X : List Ln} {k : Nat} (h : k + 1 < X.length) : txE X (k + 1) = exW (some (X[k]'(by omega)).1) X[k + 1].1 := by
  unfold txE
  rw [exE_1 (by simpa using h)]; simp
set_option maxHeartbeats 1000000 in
theorem chkAt_bad (k : Nat) (p v : ByteArray) (pr : Option Bm) (b o n c : Nat) (A : Nat → Addr) (m : Int) (W : World) (hp : p.size < 999999) (hv : v.size < 999999) (S : Te W A m) (hk : k < n) (h3 : W.cell? ⟨b, o + k * 3, none⟩ = some (.string p)) (h4 : W.cell? ⟨b, o + k * 3 + 1, none⟩ = some (.string v)) (h : mErr (p, v) ≠ 0) :
    Calls Tryz.prog 35 #[.slice (some ⟨b, o, none⟩) n c, .int .i64 (k : Int)] W fun e w' => e = .returned (errA A (exW pr (p, v))) ∧ Below W.heap.size W w' := by
  rw [exW_bad h, errA_if A h]
  have HC := hid (mcheck_any p v A m W (by omega) (by omega) S)
  rw [show modErr p.data.toList v.data.toList = mErr (p, v) from rfl, errA_if A h] at HC
  have g1 := ix_pos k
  have g2 := ix_lt hk
  clear S h hk
  go_enter Tryz.func35, Tryz.ntmps35
  go_wp2_with fail
  refine HC.out.mono ?_
  rintro e w1 ⟨rfl, hb⟩
  have HB := hid hb
  clear hb
  go_wp2_with fail
  go_ret
  exact ⟨rfl, HB.out⟩
set_option maxHeartbeats 1000000 in
theorem chkAt_0 (p v : ByteArray) (b o n c : Nat) (A : Nat → Addr) (m : Int) (W : World) (hp : p.size < 999999) (hv : v.size < 999999) (S : Te W A m) (hk : 0 < n) (h3 : W.cell? ⟨b, o, none⟩ = some (.string p)) (h4 : W.cell? ⟨b, o + 1, none⟩ = some (.string v)) (h : mErr (p, v) = 0) :
    Calls Tryz.prog 35 #[.slice (some ⟨b, o, none⟩) n c, .int .i64 0] W fun e w' => e = .returned (errA A (exW none (p, v))) ∧ Below W.heap.size W w' := by
  rw [exW_none h, errA0]
  have HC := hid (mcheck_any p v A m W (by omega) (by omega) S)
  rw [show modErr p.data.toList v.data.toList = mErr (p, v) from rfl, h, errA0] at HC
  have g2 : (0 : Int) < (n : Int) := by omega
  clear S h hk
  go_enter Tryz.func35, Tryz.ntmps35
  go_wp2_with fail
  refine HC.out.mono ?_
  rintro e w1 ⟨rfl, hb⟩
  have HB := hid hb
  clear hb
  go_wp2_with fail
  go_quiet (fail)
  go_wp2_with fail
  go_ret
  exact ⟨rfl, below_drawn_of HB.out _⟩
set_option maxHeartbeats 2000000 in
theorem chkAt_1 (k : Nat) (p v q u : ByteArray) (b o n c : Nat) (A : Nat → Addr) (m : Int) (W : World) (hp : p.size < 999999) (hv : v.size < 999999) (hu : u.size < 999999) (S : Te W A m) (hk : k + 1 < n) (hn : n ≤ 1000000)
    (h1 : W.cell? ⟨b, o + k * 3, none⟩ = some (.string q)) (h2 : W.cell? ⟨b, o + k * 3 + 1, none⟩ = some (.string u)) (h3 : W.cell? ⟨b, o + (k + 1) * 3, none⟩ = some (.string p)) (h4 : W.cell? ⟨b, o + (k + 1) * 3 + 1, none⟩ = some (.string v)) (h : mErr (p, v) = 0) :
    Calls Tryz.prog 35 #[.slice (some ⟨b, o, none⟩) n c, .int .i64 ((k : Int) + 1)] W fun e w' => e = .returned (errA A (exW (some (q, u)) (p, v))) ∧ Below W.heap.size W w' := by
  rw [exW_some h]
  have HS := hid S
  have HC := hid (mcheck_any p v A m W (by omega) (by omega) S)
  rw [show modErr p.data.toList v.data.toList = mErr (p, v) from rfl, h, errA0] at HC
  have HA := hid (fun W (SW : Te W A m) => ahead_any q u p v A m W hu hv SW)
  rw [show aheadB q.data.toList u.data.toList p.data.toList v.data.toList = mAhead (q, u) (p, v) from rfl] at HA
  have H1 := hid h1
  have H2 := hid h2
  have H3 := hid h3
  have H4 := hid h4
  have g1 : (0 : Int) ≤ (k : Int) := by omega
  have g2 : (k : Int) < (n : Int) := by omega
  have g3 : (k : Int) + 1 - 1 = (k : Int) := by omega
  have g4 : (0 : Int) < (k : Int) + 1 := by omega
  have g5 : (0 : Int) ≤ (k : Int) + 1 := by omega
  have g6 : (k : Int) + 1 < (n : Int) := by omega
  have g7 : ((k : Int) + 1).toNat = k + 1 := by omega
  have gw : IntKind.i64.wrap (k : Int) = (k : Int) := by rw [IntKind.wrap_i64]; omega
  clear S h hk
  generalize hz : mAhead (q, u) (p, v) = z at *
  clear hz
  cases z
  · rw [if_neg (by simp), errA_if A (by omega)]
    go_enter Tryz.func35, Tryz.ntmps35
    go_wp2_with fail
    refine HC.out.mono ?_
    rintro e w1 ⟨rfl, hb⟩
    have HB := hid hb
    have HS1 := hid (HS.out.below hb)
    have c1 := cell_below HB.out H1.out
    have c2 := cell_below HB.out H2.out
    have c3 := cell_below HB.out H3.out
    have c4 := cell_below HB.out H4.out
    clear hb h1 h2 h3 h4
    have HT := hid (fun W' (hW : Below w1.heap.size w1 W') => (show (fun W' => W'.cell? ⟨b, o + k * 3, none⟩ = some (.string q) ∧ W'.cell? ⟨b, o + k * 3 + 1, none⟩ = some (.string u) ∧ W'.cell? ⟨b, o + (k + 1) * 3, none⟩ = some (.string p) ∧ W'.cell? ⟨b, o + (k + 1) * 3 + 1, none⟩ = some (.string v) ∧ Hid (Below w1.heap.size w1 W')) W' from ⟨cell_below hW c1, cell_below hW c2, cell_below hW c3, cell_below hW c4, hid hW⟩))
    go_wp2_with fail
    go_region_held (fun W' => W'.cell? ⟨b, o + k * 3, none⟩ = some (.string q) ∧ W'.cell? ⟨b, o + k * 3 + 1, none⟩ = some (.string u) ∧ W'.cell? ⟨b, o + (k + 1) * 3, none⟩ = some (.string p) ∧ W'.cell? ⟨b, o + (k + 1) * 3 + 1, none⟩ = some (.string v) ∧ Hid (Below w1.heap.size w1 W')) (first | exact HT.out _ HRa.out | exact HT.out _ (below_drawn _ 1)) (first
      | (go_at_call 71; refine (HA.out _ (HS1.out.below (below_drawn _ 1))).mono ?_; rintro e w2 ⟨rfl, hb⟩; have HRa := hid ((below_drawn w1 1).trans (hb.mono (Nat.le_refl _))); clear hb))
    all_goals
      have HB2 := hid (HB.out.trans (HRa.out.mono HB.out.size))
      have gg := (HS1.out.below HRa.out).sen.g7
      clear c1 c2 c3 c4
      go_wp2_with fail
      go_ret
      exact ⟨rfl, HB2.out⟩
  · rw [if_pos rfl, errA0]
    go_enter Tryz.func35, Tryz.ntmps35
    go_wp2_with fail
    refine HC.out.mono ?_
    rintro e w1 ⟨rfl, hb⟩
    have HB := hid hb
    have HS1 := hid (HS.out.below hb)
    have c1 := cell_below HB.out H1.out
    have c2 := cell_below HB.out H2.out
    have c3 := cell_below HB.out H3.out
    have c4 := cell_below HB.out H4.out
    clear hb h1 h2 h3 h4
    have HT := hid (fun W' (hW : Below w1.heap.size w1 W') => (show (fun W' => W'.cell? ⟨b, o + k * 3, none⟩ = some (.string q) ∧ W'.cell? ⟨b, o + k * 3 + 1, none⟩ = some (.string u) ∧ W'.cell? ⟨b, o + (k + 1) * 3, none⟩ = some (.string p) ∧ W'.cell? ⟨b, o + (k + 1) * 3 + 1, none⟩ = some (.string v) ∧ Hid (Below w1.heap.size w1 W')) W' from ⟨cell_below hW c1, cell_below hW c2, cell_below hW c3, cell_below hW c4, hid hW⟩))
    go_wp2_with fail
    go_region_held (fun W' => W'.cell? ⟨b, o + k * 3, none⟩ = some (.string q) ∧ W'.cell? ⟨b, o + k * 3 + 1, none⟩ = some (.string u) ∧ W'.cell? ⟨b, o + (k + 1) * 3, none⟩ = some (.string p) ∧ W'.cell? ⟨b, o + (k + 1) * 3 + 1, none⟩ = some (.string v) ∧ Hid (Below w1.heap.size w1 W')) (first | exact HT.out _ HRa.out | exact HT.out _ (below_drawn _ 1)) (first
      | (go_at_call 71; refine (HA.out _ (HS1.out.below (below_drawn _ 1))).mono ?_; rintro e w2 ⟨rfl, hb⟩; have HRa := hid ((below_drawn w1 1).trans (hb.mono (Nat.le_refl _))); clear hb))
    all_goals
      have HB2 := hid (HB.out.trans (HRa.out.mono HB.out.size))
      clear c1 c2 c3 c4
      go_wp2_with fail
      go_ret
      exact ⟨rfl, HB2.out⟩
theorem chkAt_any (X : List Ln) (v : Value) (A : Nat → Addr) (m : Int) (W : World) (hX : X.length ≤ 1000000) (hs : shortN X) (S : Te W A m) (hv : LnAt .u32 W v X) (i : Nat) (hi : i < X.length) :
    Calls Tryz.prog 35 #[v, .int .i64 (i : Int)] W fun e w' => e = .returned (errA A (txE X i)) ∧ Below W.heap.size W w' := by
  obtain ⟨a, c, rfl, _, h⟩ := hv
  obtain ⟨b, o, rfl, hc⟩ := h (by intro e; rw [e] at hi; simp at hi)
  have hz := hs X[i] (List.getElem_mem hi)
  cases i with
  | zero =>
    rw [txE_0 hi]
    have h0 := hc 0 hi
    by_cases e0 : mErr X[0].1 = 0
    · exact chkAt_0 X[0].1.1 X[0].1.2 b o _ c A m W hz.1 hz.2 S hi (by simpa using h0.1) (by simpa using h0.2.1) e0
    · exact chkAt_bad 0 X[0].1.1 X[0].1.2 none b o _ c A m W hz.1 hz.2 S hi h0.1 h0.2.1 e0
  | succ k =>
    rw [txE_1 hi]
    have h0 := hc k (by omega)
    have h1 := hc (k + 1) hi
    by_cases e0 : mErr X[k + 1].1 = 0
    · exact chkAt_1 k X[k + 1].1.1 X[k + 1].1.2 X[k].1.1 X[k].1.2 b o X.length c A m W hz.1 hz.2 (hs X[k] (List.getElem_mem (by omega))).2 S hi hX h0.1 h0.2.1 h1.1 h1.2.1 e0
    · exact chkAt_bad (k + 1) X[k + 1].1.1 X[k + 1].1.2 _ b o _ c A m W hz.1 hz.2 S hi h1.1 h1.2.1 e0
end Ve
end Go.Proofs.YtpafkniapacfdaaGreatDoor


namespace Go.Proofs.YtpafkniapacfdaaGreatDoor
open Go.RowKit Go.Maps
namespace Ve
def chkG (Q : List Raw) (L : List Ent) (roots : List Bm) : Nat × Option Nat := if (chk Q L).1 ≠ 0 then chk Q L else (codeE (nonE Q roots) roots.length, fstE (nonE Q roots) roots.length)
theorem chkG_bad {Q : List Raw} {L : List Ent} {roots : List Bm} (h : (chk Q L).1 ≠ 0) : chkG Q L roots = chk Q L := by unfold chkG; rw [if_pos h]
theorem chkG_ok {Q : List Raw} {L : List Ent} {roots : List Bm} (h : (chk Q L).1 = 0) : chkG Q L roots = (codeE (nonE Q roots) roots.length, fstE (nonE Q roots) roots.length) := by unfold chkG; rw [if_neg (by simp [h])]
theorem codeE_all {E : Nat → Nat} {n : Nat} (h : codeE E n = 0) : ∀ j, j < n → E j = 0 := by
  cases h1 : fstE E n with
  | none => exact fstE_of_none h1
  | some i =>
    rw [codeE_some h1] at h
    exact absurd h (fstE_of_some h1).2.1
theorem nonE_found {w : World} {v : Value} {Q : List Raw} {L : List Ent} (I : Ixs w v Q L) {R : List Bm} (h : codeE (nonE Q R) R.length = 0) : ∀ m, m ∈ R → m ∈ univ L := fun m hm => by
  obtain ⟨j, hj, rfl⟩ := List.getElem_of_mem hm
  have h1 := codeE_all h j hj
  rw [nonE_at hj] at h1
  unfold nonW at h1
  refine (found_iff I _).2 ?_
  rcases idx_nat (isM R[j]) Q with h2 | h2
  · rw [h2] at h1; simp at h1
  · exact h2
end Ve
end Go.Proofs.YtpafkniapacfdaaGreatDoor
