/-
  VerD
-/
import Derived.Test.YtiebgeamfblbdaaGreatDoorFb4
import Derived.Test.YtiebgeamfblbdaaGreatDoorFb5
import Derived.Test.YtiebgeamfblbdaaGreatDoorFb1
import Derived.Deep.Onto
namespace Go.Proofs.YtiebgeamfblbdaaGreatDoor
open Go.RowKit
namespace Ve
theorem split_any (c : UInt8) (s : ByteArray) (m : Int) (w : World) (hs : s.size < 4294967281) (hm : w.cell? ⟨9, 0, none⟩ = some (.int .i64 m)) :
    Calls Tryz.prog 49 #[.string s, .string ⟨#[c]⟩] w fun e w' => ∃ X : List ByteArray, e = .returned (.slice (some ⟨w.heap.size, 0, none⟩) X.length X.length) ∧ bl X = cutAt c s.data.toList ∧
      (∀ j (h : j < X.length), w'.cell? ⟨w.heap.size, 0 + j, none⟩ = some (.string X[j])) ∧ Below w.heap.size w w' ∧ w.heap.size < w'.heap.size := by
  refine (Tryz.strings_Split s ⟨#[c]⟩ m w hs hm (Nat.le_refl 1)).mono fun e w' ⟨h1, h2⟩ => ?_
  have hlen := Lib.splitB_all ⟨#[c]⟩ (Nat.le_refl 1) 0 _ s rfl
  refine ⟨Lib.splitB ⟨#[c]⟩ 0 (Lib.countB s ⟨#[c]⟩) s, ?_, bl_split c s, ?_, ?_, ?_⟩
  · rw [h1, hlen]
  · intro j hj
    rw [h2, World.cell?_alloc_at _ _ _ _ rfl]
    simp [hj]
  · rw [h2]; exact (Below.refl _ _).alloc (Nat.le_refl _) _
  · rw [h2]; simp
theorem piece_le {c : UInt8} {s x : ByteArray} {X : List ByteArray} (hX : bl X = cutAt c s.data.toList) (hx : x ∈ X) : x.size ≤ s.size := by
  have := cutAt_le c s.data.toList _ (hX ▸ bl_mem hx)
  simpa using this
theorem many_le {c : UInt8} {s : ByteArray} {X : List ByteArray} (hX : bl X = cutAt c s.data.toList) : X.length ≤ s.size + 1 := by
  have := cutAt_many c s.data.toList
  rw [← hX, bl_len] at this
  simpa using this
theorem infoInt : (Tryz.prog.info? 3).map (fun i => (i.zero, i.size, i.bytes)) = some (some (.int .i64 0), 1, 8) := by kernel_rfl
theorem owns_below {w w' : World} {base : Nat} {e : TypeId} {size : Nat} {v : Value} {n : Nat} {xs : List Value} (h : w.ownsRow base e size v n xs) (hb : Below w.heap.size w w') : w'.ownsRow base e size v n xs := by
  obtain ⟨hl, h | ⟨g, cap, cur, e1, e2, e3, e4, e5, e6, e7⟩⟩ := h
  · exact ⟨hl, Or.inl h⟩
  · exact ⟨hl, Or.inr ⟨g, cap, cur, e1, e2, by rw [hb.block _ (lt_of_blk e3)]; exact e3, e4, e5, e6, e7⟩⟩
theorem rel_app {B : Nat} {w wr w2 w3 : World} {e : TypeId} {v : Value} {n : Nat} {xs : List Value} {o : Obj} (hB : B ≤ wr.heap.size) (hb : Below B w wr) (hown : wr.ownsRow B e 1 v n xs) (hb2 : Below wr.heap.size wr w2)
    (hg : (w2.alloc o).grownBy w3 v.ownBlock) : Below B w w3 := by
  have h2 : Below B w w2 := hb.trans (hb2.mono hB)
  have h3 : Below B w (w2.alloc o) := h2.alloc (Nat.le_trans hB hb2.size) o
  exact h3.grown hg (by simp; exact Nat.le_succ_of_le (Nat.le_trans hB hb2.size)) (fun k hk => (hown.lt k hk).1)
set_option maxHeartbeats 1000000 in
theorem nums_any (s : ByteArray) (aT aB : Addr) (m : Int) (w : World) (hs : s.size < 4294967281) (S : Vs w aT aB m) :
    Calls Tryz.prog 78 #[.string s] w fun e w' => ∃ v, e = .returned (.tuple #[v, errV aT aB (numsErr (cutAt 46 s.data.toList))]) ∧
      w'.ownsRow w.heap.size 3 1 v (cutAt 46 s.data.toList).length ((numsOf (cutAt 46 s.data.toList)).map (Value.int .i64)) ∧ Below w.heap.size w w' := by
  obtain ⟨i0, hi, hz0, hz1, hz2⟩ := info_parts infoInt
  have HS := hid S
  clear S
  go_enter Tryz.func78, Tryz.ntmps78
  go_wp2_with fail
  refine (split_any 46 s m w hs HS.out.ml).mono ?_
  rintro e w1 ⟨X, rfl, hX, hc, hb, hz⟩
  have HX := hid hX
  have HC := hid hc
  have HB := hid hb
  have hn := many_le hX
  clear hX hc hb
  go_wp2_with fail
  go_loopw [4, 5, 13] (fun v bad i wr => ∃ k : Nat, k ≤ X.length ∧ i = .int .i64 k ∧ bad = errV aT aB (numsErr (bl (X.take k))) ∧
      wr.ownsRow w1.heap.size 3 1 v k ((numsOf (bl (X.take k))).map (Value.int .i64)) ∧ Below w1.heap.size w1 wr) (fun _ _ i _ => X.length - (intOf i).toNat)
  case atStart => exact ⟨0, Nat.zero_le _, rfl, rfl, World.ownsRow_nil _ _ _ _, Below.refl _ _⟩
  case round =>
    obtain ⟨k, hk, rfl, rfl, hown, hbr⟩ := hrel
    have HO := hid hown
    have HBR := hid hbr
    clear hown hbr
    have hz2' := HBR.out.size
    by_cases hlt : k < X.length
    · have hcell : wr.cell? ⟨w.heap.size, k, none⟩ = some (.string X[k]) := by
        have := HC.out k hlt
        rw [Nat.zero_add] at this
        exact cell_below HBR.out this
      have HE := hid (numsErr_err (bl (X.take k)))
      have HSN := hid (numsErr_snoc (bl (X.take k)) X[k].data.toList)
      have HON := hid (numsOf_snoc (bl (X.take k)) X[k].data.toList)
      rw [← bl_take_snoc X k hlt] at HSN HON
      have HXK := hid (show X[k].size ≤ maxLen by have := piece_le HX.out (List.getElem_mem hlt); unfold maxLen; omega)
      have HW := hid (HB.out.trans (HBR.out.mono HB.out.size))
      generalize hq : numsErr (bl (X.take k)) = q at *
      generalize hq2 : numsOf (bl (X.take k)) = q2 at *
      clear hq hq2
      go_wp2_with fail
      refine (num_any X[k] aT aB m wr HXK.out (HS.out.below HW.out)).mono ?_
      rintro e w2 ⟨rfl, hb2⟩
      have HB2 := hid hb2
      have HPE := hid (num_err X[k].data.toList)
      have hz3 := hb2.size
      clear hb2
      go_wp2_with fail
      refine (worse_any q _ aT aB m w2 (HS.out.below (HW.out.trans (HB2.out.mono HW.out.size))) HE.out HPE.out).mono ?_
      rintro e w' ⟨rfl, rfl⟩
      rw [← HSN.out]
      go_wp2_with (at_builtin; refine wpList_append_own _ rfl _ _ 106 rfl w1.heap.size 3 i0 (.int .i64 0) 1 8 Tryz.underlying106 hi hz0 hz1 hz2 rfl (by decide) _ _ _ rfl ((owns_below HO.out HB2.out).alloc _) ⟨w'.heap.size, 0, none⟩ 1 1 [.int .i64 (num X[k].data.toList).1] rfl rfl ?c1 ?c2 ?c3 ?c4 ?c5 ?_)
      case c1 =>
        intro j u hj
        match j, hj with
        | 0, hj => simp at hj; subst hj; simp [Addr.add]
      case c2 => intro u hu; simp at hu; subst hu; rfl
      case c3 => unfold maxLen; omega
      case c4 => omega
      case c5 => simp; omega
      intro v' w3 hown' hgrow _
      have HR := hid (rel_app hz2' HBR.out HO.out HB2.out hgrow)
      have HO' := hid hown'
      clear hown' hgrow
      go_wp2_with fail
      go_roundw
      case rel => exact ⟨k + 1, by omega, by go_num, rfl, by rw [HON.out]; simpa using HO'.out, HR.out⟩
      case measure => simp [intOf]; omega
    · have hkk : X.take k = X := List.take_of_length_le (by omega)
      have hkl : k = X.length := by omega
      rw [hkk] at HO ⊢
      subst hkl
      have HL := hid (show (cutAt 46 s.data.toList).length = X.length by rw [← HX.out, bl_len])
      have HF := hid (HB.out.trans (HBR.out.mono HB.out.size))
      clear hkk
      go_wp2_with fail
      go_ret2
      exact ⟨_, by rw [HX.out]; rfl, by rw [HL.out, ← HX.out]; exact HO.out.mono HB.out.size, HF.out⟩
end Ve
end Go.Proofs.YtiebgeamfblbdaaGreatDoor
