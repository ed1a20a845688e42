
import Derived.Test.YtjndahjfodnllaaGreatDoorPw9
import Derived.Test.YtjndahjfodnllaaGreatDoorCode
import Derived.Test.YtjndahjfodnllaaGreatDoorTe
import Derived.Test.YtjndahjfodnllaaGreatDoorPw8
import Derived.Test.YtjndahjfodnllaaGreatDoorPw1
import Derived.Test.YtjndahjfodnllaaGreatDoorPw4
import Derived.Test.YtjndahjfodnllaaGreatDoorPw6
namespace Go.Proofs.YtjndahjfodnllaaGreatDoor
open Go.RowKit Go.Maps
namespace Ve
def bAX : ByteArray := ⟨#[97, 47, 120]⟩
theorem s3_slF (g : Nat) : slF (s3Q g) [qa0] = (0, none) := Prod.ext (show codeE (nonE (s3Q g) [qa0]) 1 = 0 by kernel_rfl) (show fstE (nonE (s3Q g) [qa0]) 1 = none by kernel_rfl)
theorem s3_bst (g : Nat) : bstN (s3Q g) s3L bAX [qa0] 1 = qa0 := by kernel_rfl
theorem s3_path : pathErr bAX.data.toList = 0 := by kernel_rfl
theorem s3_ofF (g : Nat) : ofF (s3Q g) s3L [qa0] bAX = (0, none) := by
  unfold ofF
  rw [s3_chk, if_neg (by simp), s3_path, if_neg (by simp), s3_slF, if_neg (by simp)]
  show (if (bstN (s3Q g) s3L bAX [qa0] 1).1.size = 0 then (5, none) else (0, none)) = ((0, none) : Nat × Option Nat)
  rw [s3_bst, if_neg (by decide)]
theorem s3_ofM (g : Nat) : ofM (s3Q g) s3L [qa0] bAX = qa0 := by
  unfold ofM
  rw [s3_ofF, if_pos rfl]
  exact s3_bst g
theorem s3_shQ (g : Nat) : shQ (s3Q g) := fun r hr => by
  have : r.1 = qa0 ∨ r.1 = qa1 ∨ r.1 = qb0 ∨ r.1 = qb1 := by
    have h := List.mem_map_of_mem (f := fun r : Raw => r.1) hr
    simpa [s3Q] using h
  rcases this with h | h | h | h <;> rw [h] <;> exact ⟨by decide, by decide⟩
end Ve
end Go.Proofs.YtjndahjfodnllaaGreatDoor


namespace Go.Proofs.YtjndahjfodnllaaGreatDoor
open Go.RowKit
namespace Ve
end Ve
end Go.Proofs.YtjndahjfodnllaaGreatDoor


namespace Go.Proofs.YtjndahjfodnllaaGreatDoor
open Go.RowKit Go.Maps
namespace Ve
end Ve
end Go.Proofs.YtjndahjfodnllaaGreatDoor


namespace Go.Proofs.YtjndahjfodnllaaGreatDoor
open Go.RowKit Go.Maps
namespace Ve
set_option maxRecDepth 100000 in
set_option maxHeartbeats 2000000 in
theorem packed_any {T : World → Prop} (OC : OfC T) (KT : StayK T) (A : Nat → Addr) (m : Int) (w : World) (S : Te w A m) (hT : T w) :
    Calls Tryz.prog 6 #[] w fun e w' => e = .returned (.bool true) ∧ Below w.heap.size w w' := by
  have HSM := hid (fun W => small3_any W)
  have HS := hid (fun W (h : Below w.heap.size w W) => S.below h)
  have HT := hid (fun W (h : Below w.heap.size w W) => KT w W hT h)
  have HOC := hid OC
  clear S OC KT hT
  go_enter Tryz.func6, Tryz.ntmps6
  go_wp2_with fail
  refine (HSM.out w).mono ?_
  rintro e w1 ⟨g, q, rfl, hix, hb⟩
  have HB1 := hid hb
  have HIX := hid hix
  clear hb hix
  have HB2 := hid (HB1.out.alloc HB1.out.size (.cells #[.string ⟨#[97]⟩, .string ⟨#[118, 49, 46, 48, 46, 48]⟩] 38))
  have HN2 := hid ((Below.refl w1.heap.size w1).alloc (Nat.le_refl _) (.cells #[.string ⟨#[97]⟩, .string ⟨#[118, 49, 46, 48, 46, 48]⟩] 38))
  have HMS := hid (show MsAt (w1.alloc (.cells #[.string ⟨#[97]⟩, .string ⟨#[118, 49, 46, 48, 46, 48]⟩] 38)) (.slice (some ⟨w1.heap.size, 0, none⟩) 1 1) [qa0] from
    ⟨some ⟨w1.heap.size, 0, none⟩, 1, rfl, Nat.le_refl _, fun _ => ⟨w1.heap.size, 0, rfl, fun j hj => by
      have : j = 0 := by simp at hj; omega
      subst this
      exact ⟨by simp; rfl, by simp; rfl⟩⟩⟩)
  have HO := hid (HOC.out (s3Q g) s3L [qa0] bAX _ _ A m _ (by decide) s3_sh (s3_shQ g) (by decide) (Nat.le_trans (hv_all _ _ _ _) (by decide)) (by decide) (HS.out _ HB2.out) (HT.out _ HB2.out) (HIX.out.below HN2.out) HMS.out)
  rw [s3_ofM, s3_ofF] at HO
  go_wp2_with fail
  refine HO.out.mono ?_
  rintro e w2 ⟨x, rfl, hx, hb⟩
  have HB3 := hid (HB2.out.trans (hb.mono HB2.out.size))
  rcases hx.kind with ⟨-, rfl⟩ | ⟨h0, -⟩
  · clear hb hx
    have hq : (qa0.2.toList == [118, 49, 46, 48, 46, 48]) = true := by rw [ByteArray.toList_eq]; rfl
    go_wp2_with fail
    go_ret
    exact ⟨rfl, HB3.out.alloc HB3.out.size _⟩
  · exact absurd rfl h0
theorem str_rf (a : ByteArray) : (a.toList == a.toList) = true := beq_self_eq_true _
theorem ixs_shQ {w : World} {v : Value} {Q : List Raw} {L : List Ent} (I : Ixs w v Q L) (h : okI L = true) : shQ Q := ixs_sz I h
theorem pk_len {Q : List Raw} {L : List Ent} (sh : ∀ e, e ∈ L → ShE e) (m : Bm) : (pkOf Q L m).length ≤ 1000 := by
  unfold pkOf
  rw [packL_len]
  unfold entOf
  cases h : L[(idxOf (isM m) Q).toNat]? with
  | none => exact Nat.zero_le _
  | some e => exact (sh e (List.mem_of_getElem? h)).pn
theorem pkf_len {Q : List Raw} {L : List Ent} (sh : ∀ e, e ∈ L → ShE e) : ∀ R : List Bm, (R.flatMap (pkOf Q L)).length ≤ R.length * 1000
  | [] => Nat.zero_le _
  | m :: R => by
    have h1 := pk_len (Q := Q) sh m
    have h2 := pkf_len (Q := Q) sh R
    rw [List.flatMap_cons, List.length_append, List.length_cons]; omega
theorem whN_len {Q : List Raw} {L : List Ent} {p : ByteArray} {X : List ByteArray} {n : Nat} : (whN Q L p X n).length ≤ X.length := by
  unfold whN
  rw [List.length_map]; exact List.length_filter_le _ _
theorem whD_len {Q : List Raw} {L : List Ent} {p : ByteArray} {X : List ByteArray} : ∀ n : Nat, (whD Q L p X n).length ≤ n * X.length
  | 0 => Nat.zero_le _
  | n + 1 => by
    have h1 := whN_len (Q := Q) (L := L) (p := p) (X := X) (n := n + 1)
    have h2 := whD_len (Q := Q) (L := L) (p := p) (X := X) n
    unfold whD
    rw [List.length_append, Nat.add_mul, Nat.one_mul]; omega
theorem wh_len {Q : List Raw} {L : List Ent} {p : ByteArray} (h : Q.length ≤ 1000) : (whX Q L p).length ≤ 1000000 := by
  unfold whX
  split
  · have h1 := whD_len (Q := Q) (L := L) (p := p) (X := phX Q) 100
    have h2 := fold_len (Z := pathL Q) (X := [])
    rw [pathL_len] at h2
    simp only [List.length_nil] at h2
    have h3 : (phX Q).length ≤ 1000 := by unfold phX; omega
    omega
  · exact Nat.zero_le _
end Ve
end Go.Proofs.YtjndahjfodnllaaGreatDoor


namespace Go.Proofs.YtjndahjfodnllaaGreatDoor
open Go.RowKit Go.Maps
namespace Ve
theorem al_one {Q : List Raw} {L : List Ent} {x : Bm} (sh : ∀ e, e ∈ L → ShE e) : (alN Q L [x]).length ≤ 1000000 := by
  have h1 := pkf_len (Q := Q) sh [x]
  have h2 := fold_len (Z := [x].flatMap (pkOf Q L)) (X := [])
  unfold alN
  simp only [List.length_nil, List.length_cons] at h1 h2
  omega
theorem hasB_next {E : List Bm} {k : Nat} (h : k < E.length) (m : Bm) : hasB (E.take (k + 1)) m = (hasB (E.take k) m || decide (m.1 = E[k].1 ∧ m.2 = E[k].2)) := by
  unfold hasB
  rw [List.take_succ_eq_append_getElem h, List.any_append]; simp
end Ve
end Go.Proofs.YtjndahjfodnllaaGreatDoor
