/-
  What the document's HeadOf and DoesBegin answer; nothing old in memory turns.
-/
import Derived.Test.YtmgpapghdbopiaaGreatDoorOrdF
namespace Go.Proofs.YtmgpapghdbopiaaGreatDoor
open Go.RowKit
namespace Ve

/-- What HeadOf answers. -/
def HeadP (l : List UInt8) (w w' : World) (e : Ending) : Prop :=
  ((headOk l = false ∧ ∃ c : Int, 0 < c ∧ e = .returned (.tuple #[.slice none 0 0, .int .i64 c]) ∧ c = ((headErr l : Nat) : Int)) ∨
    (headOk l = true ∧ ∃ g cap, e = .returned (.tuple #[.slice (some ⟨g, 0, none⟩) (numsOf (headOf l)).length cap, .int .i64 0]) ∧ ∀ j, j < (numsOf (headOf l)).length → w'.cell? ⟨g, 0 + j, none⟩ = some (.int .i64 ((numsOf (headOf l)).getD j 0)))) ∧ Below w.heap.size w w'

def bq (ps : List (List UInt8)) : Int := if 2 ∈ ps.map ncode then 2 else 0
theorem bq_range (ps : List (List UInt8)) : bq ps = 0 ∨ bq ps = 2 := by unfold bq; split <;> simp
theorem bq_snoc2 {ps : List (List UInt8)} {p : List UInt8} (h : ncode p = 2) : bq (ps ++ [p]) = 2 := by unfold bq; rw [if_pos]; simp [h]
theorem bq_snoc0 {ps : List (List UInt8)} {p : List UInt8} (h : ncode p = 0) : bq (ps ++ [p]) = bq ps := by
  unfold bq; congr 1; simp [h]
theorem nums_zero {ps : List (List UInt8)} (h1 : 1 ∉ ps.map ncode) : numsErr ps = 0 ↔ bq ps = 0 := by
  rw [numsErr_ncode, worst_no1 h1]
  unfold bq
  split <;> simp
theorem nums_two {ps : List (List UInt8)} (h1 : 1 ∉ ps.map ncode) (h : bq ps = 2) : numsErr ps = 2 := by
  rw [numsErr_ncode, worst_no1 h1]
  unfold bq at h
  split
  · rfl
  · rename_i h2; rw [if_neg h2] at h; cases h
theorem nums_one {ps : List (List UInt8)} (h1 : 1 ∈ ps.map ncode) : numsErr ps = 1 := by
  rw [numsErr_ncode]; unfold worst; rw [if_pos (Or.inr h1)]

theorem headOf_unmarked (s : ByteArray) (w : World) (hs : s.size < 4294967281) (h : marked s.data.toList = false) :
    Calls Tryz.prog 49 #[.string s] w fun e w' => HeadP s.data.toList w w' e := by
  have HK := hid (show headOk s.data.toList = false by unfold headOk; rw [h]; rfl)
  have HM := hid h
  clear h
  by_cases h0 : s.size = 0
  · have h0b : ((s.size : Int) == 0) = true := beq_iff_eq.2 (by omega)
    go_enter Tryz.func49, Tryz.ntmps49
    go_wp2_with fail
    go_ret2
    exact ⟨Or.inl ⟨HK.out, 1, by omega, rfl, headErr_one (Or.inl HM.out)⟩, Below.refl _ _⟩
  · have h0b : ((s.size : Int) == 0) = false := beq_eq_false_iff_ne.2 (by omega)
    have hp : 0 < s.size := by omega
    have hv : ((s[0].toNat : Int) == 118) = false := by
      have := HM.out
      unfold marked at this
      rw [List.headD_eq_head?_getD, List.head?_eq_getElem?, List.getElem?_eq_getElem (by simpa using hp)] at this
      simp at this ⊢
      intro e
      apply this
      apply UInt8.toNat_inj.1
      show s[0].toNat = 118
      omega
    go_enter Tryz.func49, Tryz.ntmps49
    go_wp2_with fail
    go_ret2
    exact ⟨Or.inl ⟨HK.out, 1, by omega, rfl, headErr_one (Or.inl HM.out)⟩, Below.refl _ _⟩

set_option maxHeartbeats 2000000 in
set_option maxRecDepth 100000 in
theorem headOf_marked (s : ByteArray) (w : World) (hs : s.size < 4294967281) (hmk : marked s.data.toList = true) :
    Calls Tryz.prog 49 #[.string s] w fun e w' => HeadP s.data.toList w w' e := by
  obtain ⟨i0, hi, hz0, hz1, hz2⟩ := info_parts infoInt
  obtain ⟨hpos, hv0⟩ := marked_pos hmk
  have h0b : ((s.size : Int) == 0) = false := beq_eq_false_iff_ne.2 (by omega)
  have HRD := hid (rest_drop hmk)
  have HM := hid hmk
  have hes : (s.extract 1 s.size).size < 4294967281 := by rw [ByteArray.size_extract]; omega
  have HEX := hid (ext_drop s 1)
  clear hmk
  go_enter Tryz.func49, Tryz.ntmps49
  go_wp2_with fail
  generalize s.extract 1 s.size = C at *
  refine (rcut46 C _ hes).mono ?_
  rintro e w1 ⟨v, X, rfl, hX, hown, hb⟩
  have hXc : bl X = headOf s.data.toList := by unfold headOf; rw [hX, HEX.out, HRD.out]
  have HXC := hid hXc
  have HB := hid hb
  have HXN := hid (show X ≠ [] from fun h => by subst h; exact cutAt_ne _ _ hX.symm)
  have HXZ := hid (show ∀ x, x ∈ X → x.size ≤ maxLen from fun x hx => by have := piece_le hX hx; unfold maxLen; omega)
  obtain ⟨gx, cap, rfl, hg, hgz, hcells⟩ := owned_cells hown HXN.out
  have HCE := hid hcells
  have hXle := many_le hX
  have hXl : X.length = (headOf s.data.toList).length := by rw [← hXc, bl_len]
  clear hX hXc hown hb hg hgz hcells
  by_cases hl : 2 < X.length
  · have hl2 : decide (2 < (X.length : Int)) = true := decide_eq_true (by omega)
    have HK := hid (show headOk s.data.toList = false by unfold headOk; rw [decide_eq_false (show ¬ (headOf s.data.toList).length ≤ 2 by omega)]; simp)
    have HE1 := hid (headErr_one (l := s.data.toList) (Or.inr (by omega)))
    go_wp2_with fail
    go_ret2
    exact ⟨Or.inl ⟨HK.out, 1, by omega, rfl, HE1.out⟩, HB.out⟩
  · have hl2 : decide (2 < (X.length : Int)) = false := decide_eq_false (by omega)
    have HLE := hid (show decide ((headOf s.data.toList).length ≤ 2) = true from decide_eq_true (by omega))
    have HB1 := hid HB.out
    have HEN := hid (headErr_nums HM.out (show ¬ 2 < (headOf s.data.toList).length by omega))
    go_wp2_with fail
    go_loopw [5, 6, 7] (fun v bad i wr => ∃ k : Nat, k ≤ X.length ∧ i = .int .i64 k ∧ bad = .int .i64 (bq (bl (X.take k))) ∧ Hid (1 ∉ (bl (X.take k)).map ncode) ∧
        wr.ownsRow w1.heap.size 3 1 v k ((numsOf (bl (X.take k))).map (Value.int .i64)) ∧ Below w1.heap.size w1 wr) (fun _ _ i _ => X.length - (intOf i).toNat)
    case atStart => exact ⟨0, Nat.zero_le _, rfl, rfl, hid (by simp [bl]), World.ownsRow_nil _ _ _ _, Below.refl _ _⟩
    case round =>
      obtain ⟨k, hk, rfl, rfl, H1, hown, hbr⟩ := hrel
      have HO := hid hown
      have HBR := hid hbr
      have hz := hbr.size
      clear hown hbr
      by_cases hlt : k < X.length
      · have hcell : wr.cell? ⟨gx, k, none⟩ = some (.string X[k]) := cell_below HBR.out (HCE.out k hlt)
        have HNM := hid (numberOf_any X[k] wr (HXZ.out _ (List.getElem_mem hlt)))
        have HON := hid (numsOf_snoc (bl (X.take k)) X[k].data.toList)
        have HQ2 := hid (bq_snoc2 (ps := bl (X.take k)) (p := X[k].data.toList))
        have HQ0 := hid (bq_snoc0 (ps := bl (X.take k)) (p := X[k].data.toList))
        have HI1 := hid (show ncode X[k].data.toList ≠ 1 → 1 ∉ (bl (X.take (k + 1))).map ncode by
          intro h; rw [bl_take_snoc X k hlt]; simp only [List.map_append, List.mem_append, not_or]; exact ⟨H1.out, by simp [Ne.symm h]⟩)
        have HX2 := hid (show ncode X[k].data.toList = 1 → (1 : Int) = ((headErr s.data.toList : Nat) : Int) by
          intro h
          rw [HEN.out, nums_one (show 1 ∈ (headOf s.data.toList).map ncode by rw [← HXC.out]; exact List.mem_map.2 ⟨_, bl_mem (List.getElem_mem hlt), h⟩)]
          rfl)
        have HX1 := hid (show ncode X[k].data.toList = 1 → headOk s.data.toList = false by
          intro h
          unfold headOk
          rw [nums_one (show 1 ∈ (headOf s.data.toList).map ncode by rw [← HXC.out]; exact List.mem_map.2 ⟨_, bl_mem (List.getElem_mem hlt), h⟩)]
          simp)
        rw [← bl_take_snoc X k hlt] at HON HQ2 HQ0
        have HRG := hid (num_err X[k].data.toList)
        rw [show (num X[k].data.toList).2 = ncode X[k].data.toList from rfl] at HRG HNM
        generalize hc : ncode X[k].data.toList = c at *
        generalize hn : (num X[k].data.toList).1 = nk at *
        generalize hq2 : numsOf (bl (X.take k)) = q2 at *
        generalize hq : bq (bl (X.take k)) = q at *
        clear hq2 hq hc hn
        rcases HRG.out with rfl | rfl | rfl
        · go_wp2_with fail
          refine HNM.out.mono ?_
          rintro e w' ⟨rfl, rfl⟩
          go_wp2_with (at_builtin; refine wpList_append_own _ rfl _ _ 66 rfl w1.heap.size 3 i0 (.int .i64 0) 1 8 Tryz.underlying66 hi hz0 hz1 hz2 rfl (by decide) _ _ _ rfl (HO.out.alloc _) ⟨w'.heap.size, 0, none⟩ 1 1 [.int .i64 nk] rfl rfl ?c1 ?c2 ?c3 ?c4 ?c5 ?_)
          case c1 =>
            intro j u hj
            match j, hj with
            | 0, hj => simp at hj; subst hj; simp [Addr.add]
          case c2 => intro u hu; simp at hu; subst hu; rfl
          case c3 => unfold maxLen; omega
          case c4 => omega
          case c5 => simp; omega
          intro v' w3 hown' hgrow _
          have HR := hid (rel_app hz HBR.out HO.out (Below.refl _ _) hgrow)
          have HO' := hid hown'
          clear hown' hgrow
          go_wp2_with fail
          go_roundw
          case rel => exact ⟨k + 1, by omega, by go_num, by rw [HQ0.out (by first | rfl | trivial)], hid (HI1.out (by omega)), by rw [HON.out]; simpa using HO'.out, HR.out⟩
          case measure => simp [intOf]; omega
        · go_wp2_with fail
          refine HNM.out.mono ?_
          rintro e w' ⟨rfl, rfl⟩
          go_wp2_with fail
          go_ret2
          exact ⟨Or.inl ⟨HX1.out (by first | rfl | trivial), 1, by omega, rfl, HX2.out (by first | rfl | trivial)⟩, HB.out.trans (HBR.out.mono HB.out.size)⟩
        · go_wp2_with fail
          refine HNM.out.mono ?_
          rintro e w' ⟨rfl, rfl⟩
          go_wp2_with (at_builtin; refine wpList_append_own _ rfl _ _ 66 rfl w1.heap.size 3 i0 (.int .i64 0) 1 8 Tryz.underlying66 hi hz0 hz1 hz2 rfl (by decide) _ _ _ rfl (HO.out.alloc _) ⟨w'.heap.size, 0, none⟩ 1 1 [.int .i64 nk] rfl rfl ?c1 ?c2 ?c3 ?c4 ?c5 ?_)
          case c1 =>
            intro j u hj
            match j, hj with
            | 0, hj => simp at hj; subst hj; simp [Addr.add]
          case c2 => intro u hu; simp at hu; subst hu; rfl
          case c3 => unfold maxLen; omega
          case c4 => omega
          case c5 => simp; omega
          intro v' w3 hown' hgrow _
          have HR := hid (rel_app hz HBR.out HO.out (Below.refl _ _) hgrow)
          have HO' := hid hown'
          clear hown' hgrow
          go_wp2_with fail
          go_roundw
          case rel => exact ⟨k + 1, by omega, by go_num, by rw [HQ2.out (by first | rfl | trivial)], hid (HI1.out (by omega)), by rw [HON.out]; simpa using HO'.out, HR.out⟩
          case measure => simp [intOf]; omega
      · have hkk : X.take k = X := List.take_of_length_le (by omega)
        have hkl : k = X.length := by omega
        rw [hkk, HXC.out] at HO H1 ⊢
        have HF := hid (HB.out.trans (HBR.out.mono HB.out.size))
        have HZ := hid (nums_zero H1.out)
        subst hkl
        rcases bq_range (headOf s.data.toList) with h0 | h0
        · rw [h0] at HZ ⊢
          have HK := hid (show headOk s.data.toList = true by unfold headOk; rw [HM.out, decide_eq_true (HZ.out.2 rfl), HLE.out]; rfl)
          have hlen := numsOf_len (headOf s.data.toList)
          rw [hXl, ← hlen] at HO
          obtain ⟨g, cp, rfl, hg1, hg2, hgc⟩ := owned_int HO.out (by intro h; rw [h] at hlen; have := headOf_pos s.data.toList; simp at hlen; omega)
          have HGC := hid hgc
          clear hgc hg1 hg2 h0 hkk
          go_wp2_with fail
          go_ret2
          exact ⟨Or.inr ⟨HK.out, g, cp, by rw [numsOf_len]; rfl, HGC.out⟩, HF.out⟩
        · have HE2 := hid (show (2 : Int) = ((headErr s.data.toList : Nat) : Int) by rw [HEN.out, nums_two H1.out h0]; rfl)
          rw [h0] at HZ ⊢
          have HK := hid (show headOk s.data.toList = false by
            unfold headOk
            rw [decide_eq_false (show ¬ numsErr (headOf s.data.toList) = 0 from fun h => by have := HZ.out.1 h; omega)]; simp)
          obtain ⟨pn, nn, cn, rfl⟩ := owned_slice HO.out
          clear h0 hkk
          go_wp2_with fail
          go_ret2
          exact ⟨Or.inl ⟨HK.out, 2, by omega, rfl, HE2.out⟩, HF.out⟩

theorem headOf_any (s : ByteArray) (w : World) (hs : s.size < 4294967281) : Calls Tryz.prog 49 #[.string s] w fun e w' => HeadP s.data.toList w w' e := by
  cases h : marked s.data.toList
  · exact headOf_unmarked s w hs h
  · exact headOf_marked s w hs h
end Ve
end Go.Proofs.YtmgpapghdbopiaaGreatDoor
