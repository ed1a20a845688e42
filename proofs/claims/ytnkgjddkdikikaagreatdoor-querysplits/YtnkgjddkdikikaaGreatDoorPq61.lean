/-
  OrdG QwA QrC OrdH
-/
import Derived.Test.YtnkgjddkdikikaaGreatDoorPq2
import Derived.Test.YtnkgjddkdikikaaGreatDoorPq3
import Derived.Test.YtnkgjddkdikikaaGreatDoorPq4
import Derived.Test.YtnkgjddkdikikaaGreatDoorPq7
import Derived.Test.YtnkgjddkdikikaaGreatDoorPq10
import Derived.Test.YtnkgjddkdikikaaGreatDoorPq16
import Derived.Test.YtnkgjddkdikikaaGreatDoorPq5
import Derived.Test.YtnkgjddkdikikaaGreatDoorPq13
import Derived.Test.YtnkgjddkdikikaaGreatDoorPq8
import Derived.Test.YtnkgjddkdikikaaGreatDoorPq27
import Derived.Test.YtnkgjddkdikikaaGreatDoorPq31
import Derived.Test.YtnkgjddkdikikaaGreatDoorPq32
import Derived.Test.YtnkgjddkdikikaaGreatDoorPq34
namespace Go.Proofs.YtnkgjddkdikikaaGreatDoor
open Go.RowKit
namespace Ve
def HeadP (l : List UInt8) (w w' : World) (e : Ending) : Prop :=
  ((headOk l = false ∧ ∃ c : Int, 0 < c ∧ e = .returned (.tuple #[.slice none 0 0, .int .i64 c]) ∧ c = ((headErr l : Nat) : Int)) ∨
    (headOk l = true ∧ ∃ g cap, e = .returned (.tuple #[.slice (some ⟨g, 0, none⟩) (numsOf (headOf l)).length cap, .int .i64 0]) ∧ ∀ j, j < (numsOf (headOf l)).length → w'.cell? ⟨g, 0 + j, none⟩ = some (.int .i64 ((numsOf (headOf l)).getD j 0)))) ∧ Below w.heap.size w w'
def bq (ps : List (List UInt8)) : Int := if 2 ∈ ps.map ncode then 2 else 0
theorem bq_range (ps : List (List UInt8)) : bq ps = 0 ∨ bq ps = 2 := by unfold bq; split <;> simp
theorem bq_snoc2 {ps : List (List UInt8)} {p : List UInt8} (h : ncode p = 2) : bq (ps ++ [p]) = 2 := by unfold bq; rw [if_pos]; simp [h]
theorem bq_snoc0 {ps : List (List UInt8)} {p : List UInt8} (h : ncode p = 0) : bq (ps ++ [p]) = bq ps := by
  unfold bq; congr 1; simp [h]
theorem nums_zero {ps : List (List UInt8)} (h1 : 1 ∉ ps.map ncode) : numsErr ps = 0 ↔ bq ps = 0 := by
  rw [numsErr_ncode, worst_no1 h1]
  unfold bq
  split <;> simp
theorem nums_two {ps : List (List UInt8)} (h1 : 1 ∉ ps.map ncode) (h : bq ps = 2) : numsErr ps = 2 := by
  rw [numsErr_ncode, worst_no1 h1]
  unfold bq at h
  split
  · rfl
  · rename_i h2; rw [if_neg h2] at h; cases h
theorem nums_one {ps : List (List UInt8)} (h1 : 1 ∈ ps.map ncode) : numsErr ps = 1 := by
  rw [numsErr_ncode]; unfold worst; rw [if_pos (Or.inr h1)]
theorem headOf_unmarked (s : ByteArray) (w : World) (hs : s.size < 4294967281) (h : marked s.data.toList = false) :
    Calls Tryz.prog 88 #[.string s] w fun e w' => HeadP s.data.toList w w' e := by
  have HK := hid (show headOk s.data.toList = false by unfold headOk; rw [h]; rfl)
  have HM := hid h
  clear h
  by_cases h0 : s.size = 0
  · have h0b : ((s.size : Int) == 0) = true := beq_iff_eq.2 (by omega)
    go_enter Tryz.func88, Tryz.ntmps88
    go_wp2_with fail
    go_ret2
    exact ⟨Or.inl ⟨HK.out, 1, by omega, rfl, headErr_one (Or.inl HM.out)⟩, Below.refl _ _⟩
  · have h0b : ((s.size : Int) == 0) = false := beq_eq_false_iff_ne.2 (by omega)
    have hp : 0 < s.size := by omega
    have hv : ((s[0].toNat : Int) == 118) = false := by
      have := HM.out
      unfold marked at this
      rw [List.headD_eq_head?_getD, List.head?_eq_getElem?, List.getElem?_eq_getElem (by simpa using hp)] at this
      simp at this ⊢
      intro e
      apply this
      apply UInt8.toNat_inj.1
      show s[0].toNat = 118
      omega
    go_enter Tryz.func88, Tryz.ntmps88
    go_wp2_with fail
    go_ret2
    exact ⟨Or.inl ⟨HK.out, 1, by omega, rfl, headErr_one (Or.inl HM.out)⟩, Below.refl _ _⟩
set_option maxHeartbeats 2000000 in
set_option maxRecDepth 100000 in
theorem headOf_marked (s : ByteArray) (w : World) (hs : s.size < 4294967281) (hmk : marked s.data.toList = true) :
    Calls Tryz.prog 88 #[.string s] w fun e w' => HeadP s.data.toList w w' e := by
  obtain ⟨i0, hi, hz0, hz1, hz2⟩ := info_parts infoInt
  obtain ⟨hpos, hv0⟩ := marked_pos hmk
  have h0b : ((s.size : Int) == 0) = false := beq_eq_false_iff_ne.2 (by omega)
  have HRD := hid (rest_drop hmk)
  have HM := hid hmk
  have hes : (s.extract 1 s.size).size < 4294967281 := by rw [ByteArray.size_extract]; omega
  have HEX := hid (ext_drop s 1)
  clear hmk
  go_enter Tryz.func88, Tryz.ntmps88
  go_wp2_with fail
  generalize s.extract 1 s.size = C at *
  refine (rcut46 C _ hes).mono ?_
  rintro e w1 ⟨v, X, rfl, hX, hown, hb⟩
  have hXc : bl X = headOf s.data.toList := by unfold headOf; rw [hX, HEX.out, HRD.out]
  have HXC := hid hXc
  have HB := hid hb
  have HXN := hid (show X ≠ [] from fun h => by subst h; exact cutAt_ne _ _ hX.symm)
  have HXZ := hid (show ∀ x, x ∈ X → x.size ≤ maxLen from fun x hx => by have := piece_le hX hx; unfold maxLen; omega)
  obtain ⟨gx, cap, rfl, hg, hgz, hcells⟩ := owned_cells hown HXN.out
  have HCE := hid hcells
  have hXle := many_le hX
  have hXl : X.length = (headOf s.data.toList).length := by rw [← hXc, bl_len]
  clear hX hXc hown hb hg hgz hcells
  by_cases hl : 2 < X.length
  · have hl2 : decide (2 < (X.length : Int)) = true := decide_eq_true (by omega)
    have HK := hid (show headOk s.data.toList = false by unfold headOk; rw [decide_eq_false (show ¬ (headOf s.data.toList).length ≤ 2 by omega)]; simp)
    have HE1 := hid (headErr_one (l := s.data.toList) (Or.inr (by omega)))
    go_wp2_with fail
    go_ret2
    exact ⟨Or.inl ⟨HK.out, 1, by omega, rfl, HE1.out⟩, HB.out⟩
  · have hl2 : decide (2 < (X.length : Int)) = false := decide_eq_false (by omega)
    have HLE := hid (show decide ((headOf s.data.toList).length ≤ 2) = true from decide_eq_true (by omega))
    have HB1 := hid HB.out
    have HEN := hid (headErr_nums HM.out (show ¬ 2 < (headOf s.data.toList).length by omega))
    go_wp2_with fail
    go_loopw [5, 6, 7] (fun v bad i wr => ∃ k : Nat, k ≤ X.length ∧ i = .int .i64 k ∧ bad = .int .i64 (bq (bl (X.take k))) ∧ Hid (1 ∉ (bl (X.take k)).map ncode) ∧
        wr.ownsRow w1.heap.size 3 1 v k ((numsOf (bl (X.take k))).map (Value.int .i64)) ∧ Below w1.heap.size w1 wr) (fun _ _ i _ => X.length - (intOf i).toNat)
    case atStart => exact ⟨0, Nat.zero_le _, rfl, rfl, hid (by simp [bl]), World.ownsRow_nil _ _ _ _, Below.refl _ _⟩
    case round =>
      obtain ⟨k, hk, rfl, rfl, H1, hown, hbr⟩ := hrel
      have HO := hid hown
      have HBR := hid hbr
      have hz := hbr.size
      clear hown hbr
      by_cases hlt : k < X.length
      · have hcell : wr.cell? ⟨gx, k, none⟩ = some (.string X[k]) := cell_below HBR.out (HCE.out k hlt)
        have HNM := hid (numberOf_any X[k] wr (HXZ.out _ (List.getElem_mem hlt)))
        have HON := hid (numsOf_snoc (bl (X.take k)) X[k].data.toList)
        have HQ2 := hid (bq_snoc2 (ps := bl (X.take k)) (p := X[k].data.toList))
        have HQ0 := hid (bq_snoc0 (ps := bl (X.take k)) (p := X[k].data.toList))
        have HI1 := hid (show ncode X[k].data.toList ≠ 1 → 1 ∉ (bl (X.take (k + 1))).map ncode by
          intro h; rw [bl_take_snoc X k hlt]; simp only [List.map_append, List.mem_append, not_or]; exact ⟨H1.out, by simp [Ne.symm h]⟩)
        have HX2 := hid (show ncode X[k].data.toList = 1 → (1 : Int) = ((headErr s.data.toList : Nat) : Int) by
          intro h
          rw [HEN.out, nums_one (show 1 ∈ (headOf s.data.toList).map ncode by rw [← HXC.out]; exact List.mem_map.2 ⟨_, bl_mem (List.getElem_mem hlt), h⟩)]
          rfl)
        have HX1 := hid (show ncode X[k].data.toList = 1 → headOk s.data.toList = false by
          intro h
          unfold headOk
          rw [nums_one (show 1 ∈ (headOf s.data.toList).map ncode by rw [← HXC.out]; exact List.mem_map.2 ⟨_, bl_mem (List.getElem_mem hlt), h⟩)]
          simp)
        rw [← bl_take_snoc X k hlt] at HON HQ2 HQ0
        have HRG := hid (num_err X[k].data.toList)
        rw [show (num X[k].data.toList).2 = ncode X[k].data.toList from rfl] at HRG HNM
        generalize hc : ncode X[k].data.toList = c at *
        generalize hn : (num X[k].data.toList).1 = nk at *
        generalize hq2 : numsOf (bl (X.take k)) = q2 at *
        generalize hq : bq (bl (X.take k)) = q at *
        clear hq2 hq hc hn
        rcases HRG.out with rfl | rfl | rfl
        · go_wp2_with fail
          refine HNM.out.mono ?_
          rintro e w' ⟨rfl, rfl⟩
          go_wp2_with (at_builtin; refine wpList_append_own _ rfl _ _ 99 rfl w1.heap.size 3 i0 (.int .i64 0) 1 8 Tryz.underlying99 hi hz0 hz1 hz2 rfl (by decide) _ _ _ rfl (HO.out.alloc _) ⟨w'.heap.size, 0, none⟩ 1 1 [.int .i64 nk] rfl rfl ?c1 ?c2 ?c3 ?c4 ?c5 ?_)
          case c1 =>
            intro j u hj
            match j, hj with
            | 0, hj => simp at hj; subst hj; simp [Addr.add]
          case c2 => intro u hu; simp at hu; subst hu; rfl
          case c3 => unfold maxLen; omega
          case c4 => omega
          case c5 => simp; omega
          intro v' w3 hown' hgrow _
          have HR := hid (rel_app hz HBR.out HO.out (Below.refl _ _) hgrow)
          have HO' := hid hown'
          clear hown' hgrow
          go_wp2_with fail
          go_roundw
          case rel => exact ⟨k + 1, by omega, by go_num, by rw [HQ0.out (by first | rfl | trivial)], hid (HI1.out (by omega)), by rw [HON.out]; simpa using HO'.out, HR.out⟩
          case measure => simp [intOf]; omega
        · go_wp2_with fail
          refine HNM.out.mono ?_
          rintro e w' ⟨rfl, rfl⟩
          go_wp2_with fail
          go_ret2
          exact ⟨Or.inl ⟨HX1.out (by first | rfl | trivial), 1, by omega, rfl, HX2.out (by first | rfl | trivial)⟩, HB.out.trans (HBR.out.mono HB.out.size)⟩
        · go_wp2_with fail
          refine HNM.out.mono ?_
          rintro e w' ⟨rfl, rfl⟩
          go_wp2_with (at_builtin; refine wpList_append_own _ rfl _ _ 99 rfl w1.heap.size 3 i0 (.int .i64 0) 1 8 Tryz.underlying99 hi hz0 hz1 hz2 rfl (by decide) _ _ _ rfl (HO.out.alloc _) ⟨w'.heap.size, 0, none⟩ 1 1 [.int .i64 nk] rfl rfl ?c1 ?c2 ?c3 ?c4 ?c5 ?_)
          case c1 =>
            intro j u hj
            match j, hj with
            | 0, hj => simp at hj; subst hj; simp [Addr.add]
          case c2 => intro u hu; simp at hu; subst hu; rfl
          case c3 => unfold maxLen; omega
          case c4 => omega
          case c5 => simp; omega
          intro v' w3 hown' hgrow _
          have HR := hid (rel_app hz HBR.out HO.out (Below.refl _ _) hgrow)
          have HO' := hid hown'
          clear hown' hgrow
          go_wp2_with fail
          go_roundw
          case rel => exact ⟨k + 1, by omega, by go_num, by rw [HQ2.out (by first | rfl | trivial)], hid (HI1.out (by omega)), by rw [HON.out]; simpa using HO'.out, HR.out⟩
          case measure => simp [intOf]; omega
      · have hkk : X.take k = X := List.take_of_length_le (by omega)
        have hkl : k = X.length := by omega
        rw [hkk, HXC.out] at HO H1 ⊢
        have HF := hid (HB.out.trans (HBR.out.mono HB.out.size))
        have HZ := hid (nums_zero H1.out)
        subst hkl
        rcases bq_range (headOf s.data.toList) with h0 | h0
        · rw [h0] at HZ ⊢
          have HK := hid (show headOk s.data.toList = true by unfold headOk; rw [HM.out, decide_eq_true (HZ.out.2 rfl), HLE.out]; rfl)
          have hlen := numsOf_len (headOf s.data.toList)
          rw [hXl, ← hlen] at HO
          obtain ⟨g, cp, rfl, hg1, hg2, hgc⟩ := owned_int HO.out (by intro h; rw [h] at hlen; have := headOf_pos s.data.toList; simp at hlen; omega)
          have HGC := hid hgc
          clear hgc hg1 hg2 h0 hkk
          go_wp2_with fail
          go_ret2
          exact ⟨Or.inr ⟨HK.out, g, cp, by rw [numsOf_len]; rfl, HGC.out⟩, HF.out⟩
        · have HE2 := hid (show (2 : Int) = ((headErr s.data.toList : Nat) : Int) by rw [HEN.out, nums_two H1.out h0]; rfl)
          rw [h0] at HZ ⊢
          have HK := hid (show headOk s.data.toList = false by
            unfold headOk
            rw [decide_eq_false (show ¬ numsErr (headOf s.data.toList) = 0 from fun h => by have := HZ.out.1 h; omega)]; simp)
          obtain ⟨pn, nn, cn, rfl⟩ := owned_slice HO.out
          clear h0 hkk
          go_wp2_with fail
          go_ret2
          exact ⟨Or.inl ⟨HK.out, 2, by omega, rfl, HE2.out⟩, HF.out⟩
theorem headOf_any (s : ByteArray) (w : World) (hs : s.size < 4294967281) : Calls Tryz.prog 88 #[.string s] w fun e w' => HeadP s.data.toList w w' e := by
  cases h : marked s.data.toList
  · exact headOf_unmarked s w hs h
  · exact headOf_marked s w hs h
end Ve
end Go.Proofs.YtnkgjddkdikikaaGreatDoor
namespace Go.Proofs.YtnkgjddkdikikaaGreatDoor
open Go.RowKit
namespace Ve
set_option maxHeartbeats 4000000 in
set_option maxRecDepth 100000 in
theorem qwhere_some (K : Nat) (cb : Array Value) (P : Raw → Bool) (L : List Raw) (b o c : Nat) (w : World) (eg : ∀ args w, (callFunc K args).run Tryz.prog w = .ok (.enter K args) w) (hL : L.length ≤ 100000) (hs : ∀ r, r ∈ L → slR r)
    (hc : ∀ j (h : j < L.length), w.cell? ⟨b, o + j * 5, none⟩ = some (.string L[j].1.1) ∧ w.cell? ⟨b, o + j * 5 + 1, none⟩ = some (.string L[j].1.2) ∧ w.cell? ⟨b, o + j * 5 + 2, none⟩ = some L[j].2.1 ∧ w.cell? ⟨b, o + j * 5 + 3, none⟩ = some L[j].2.2.1 ∧ w.cell? ⟨b, o + j * 5 + 4, none⟩ = some (.bool L[j].2.2.2))
    (hK : ∀ i (h : i < L.length) W, Below w.heap.size w W → Calls Tryz.prog K (#[.string L[i].1.2] ++ cb) W fun e w' => e = .returned (.bool (P L[i])) ∧ Below W.heap.size W w') :
    Calls Tryz.prog 78 #[.slice (some ⟨b, o, none⟩) L.length c, .func (.func K) #[] cb] w fun e w' => ∃ v, e = .returned v ∧ w'.ownsRow w.heap.size 42 5 v (L.filter P).length (flatR (L.filter P)) ∧ Below w.heap.size w w' := by
  obtain ⟨i0, hi0, hz0, hz1, hz2⟩ := info_parts infoEnt
  have HK := hid hK
  have HC := hid hc
  have HSL := hid hs
  clear hK hc hs
  go_enter Tryz.func78, Tryz.ntmps78
  go_wp2_with fail
  go_loopw [5, 10] (fun ov i wr => ∃ k : Nat, k ≤ L.length ∧ i = .int .i64 k ∧ Hid (wr.ownsRow w.heap.size 42 5 ov ((L.take k).filter P).length (flatR ((L.take k).filter P))) ∧ Hid (Below w.heap.size w wr)) (fun _ i _ => L.length - (intOf i).toNat)
  case atStart => exact ⟨0, Nat.zero_le _, rfl, hid (World.ownsRow_nil _ _ _ _), hid (Below.refl _ _)⟩
  case round =>
    obtain ⟨k, hk, rfl, HO, HB⟩ := hrel
    by_cases hlt : k < L.length
    · obtain ⟨y0, y1, y2, y3, y4⟩ := HC.out k hlt
      have x0 := cell_below HB.out y0
      have x1 := cell_below HB.out y1
      have x2 := cell_below HB.out y2
      have x3 := cell_below HB.out y3
      have x4 := cell_below HB.out y4
      have hsl := HSL.out L[k] (List.getElem_mem hlt)
      have hkI : (k : Int) < (L.length : Int) := by omega
      have HLT := hid hlt
      have HY := hid (fun h => filter_yes hlt h (P := P))
      have HN := hid (fun h => filter_no hlt h (P := P))
      have HKK := hid (fun W hW => HK.out k hlt W hW)
      have HLN := hid (show ((L.take k).filter P).length ≤ 100000 from Nat.le_trans (List.length_filter_le _ _) (by rw [List.length_take]; omega))
      clear y0 y1 y2 y3 y4
      generalize L[k] = x at *
      obtain ⟨⟨p, q⟩, rv, pv, bk⟩ := x
      obtain ⟨⟨ra, rn, rc, hrv⟩, pa, pn, pc, hpv⟩ := hsl
      simp only at hrv hpv
      subst hrv
      subst hpv
      have HBa := hid (HB.out.alloc HB.out.size (.cells #[.string p, .string q, .slice ra rn rc, .slice pa pn pc, .bool bk] 42))
      have HP := hid (HKK.out _ HBa.out)
      have HOa := hid (HO.out.alloc (.cells #[.string p, .string q, .slice ra rn rc, .slice pa pn pc, .bool bk] 42))
      clear hlt HKK
      cases hp : P ((p, q), .slice ra rn rc, .slice pa pn pc, bk)
      · rw [hp] at HP
        have HN2 := hid (HN.out hp)
        clear hp
        go_wp2_with fail
        refine HP.out.mono ?_
        rintro e w1 ⟨rfl, hb⟩
        have HB1 := hid (HBa.out.trans (hb.mono HBa.out.size))
        have HO1 := hid (owns_below HOa.out hb)
        clear hb
        go_wp2_with fail
        go_roundw
        case rel => exact ⟨k + 1, by have := HLT.out; omega, by go_num, by rw [HN2.out]; exact HO1, HB1⟩
        case measure => have := HLT.out; simp [intOf]; omega
      · rw [hp] at HP
        have HY2 := hid (HY.out hp)
        clear hp
        go_wp2_with fail
        refine HP.out.mono ?_
        rintro e w1 ⟨rfl, hb⟩
        have HB1 := hid (HBa.out.trans (hb.mono HBa.out.size))
        have HO1 := hid (owns_below HOa.out hb)
        have HE1 := hid (show w1.heap[wr.heap.size]? = some (.cells #[.string p, .string q, .slice ra rn rc, .slice pa pn pc, .bool bk] 42 (0, 0)) by rw [hb.block _ (by simp)]; exact heap_alloc_new wr _)
        have z0 : w1.cell? ⟨wr.heap.size, 0, none⟩ = some (.string p) := by rw [Lib.cell_of_heap HE1.out]; rfl
        have z1 : w1.cell? ⟨wr.heap.size, 1, none⟩ = some (.string q) := by rw [Lib.cell_of_heap HE1.out]; rfl
        have z2 : w1.cell? ⟨wr.heap.size, 2, none⟩ = some (.slice ra rn rc) := by rw [Lib.cell_of_heap HE1.out]; rfl
        have z3 : w1.cell? ⟨wr.heap.size, 3, none⟩ = some (.slice pa pn pc) := by rw [Lib.cell_of_heap HE1.out]; rfl
        have z4 : w1.cell? ⟨wr.heap.size, 4, none⟩ = some (.bool bk) := by rw [Lib.cell_of_heap HE1.out]; rfl
        clear hb x0 x1 x2 x3 x4
        go_wp2_with (at_builtin; refine wpList_append_own _ rfl _ _ 22 rfl w.heap.size 42 i0 _ 5 88 Tryz.underlying22 hi0 hz0 hz1 hz2 rfl (by decide) _ _ _ rfl (HO1.out.alloc _) ⟨w1.heap.size, 0, none⟩ 1 1 [.string p, .string q, .slice ra rn rc, .slice pa pn pc, .bool bk] rfl rfl ?c1 ?c2 ?c3 ?c4 ?c5 ?_)
        case c1 => exact World.news_of_block (cs := #[.string p, .string q, .slice ra rn rc, .slice pa pn pc, .bool bk]) (t := 42) (fr := (0, 0)) (heap_alloc_new w1 _)
        case c2 =>
          intro u hu
          simp at hu
          rcases hu with rfl | rfl | rfl | rfl | rfl <;> rfl
        case c3 => have := HLN.out; unfold maxLen; omega
        case c4 => have := HLN.out; omega
        case c5 => have := HB1.out.size; simp; omega
        intro v' w3 hown hgrow _
        have HR3 := hid (rel_app5 HB1.out.size HB1.out HO1.out (Below.refl _ _) hgrow)
        have HO3 := hid hown
        clear hown hgrow z0 z1 z2 z3 z4
        go_wp2_with fail
        go_roundw
        case rel => exact ⟨k + 1, by have := HLT.out; omega, by go_num, hid (own_nextR (x := ((p, q), .slice ra rn rc, .slice pa pn pc, bk)) HO3.out HY2.out), HR3⟩
        case measure => have := HLT.out; simp [intOf]; omega
    · have HTR := hid (show L.take k = L from List.take_of_length_le (by omega))
      rw [HTR.out] at HO
      have hkI : ¬ (k : Int) < (L.length : Int) := by omega
      clear hlt
      go_wp2_with fail
      go_ret
      exact ⟨_, rfl, HO.out, HB.out⟩
theorem qwhere_none (K : Nat) (cb : Array Value) (a : Option Addr) (c : Nat) (w : World) :
    Calls Tryz.prog 78 #[.slice a 0 c, .func (.func K) #[] cb] w fun e w' => e = .returned (.slice none 0 0) ∧ Below w.heap.size w w' := by
  go_enter Tryz.func78, Tryz.ntmps78
  go_wp2_with fail
  go_loopw [5, 10] (fun ov i wr => ov = .slice none 0 0 ∧ i = .int .i64 0 ∧ wr = w) (fun _ i _ => 0)
  case atStart => exact ⟨rfl, rfl, rfl⟩
  case round =>
    obtain ⟨rfl, rfl, rfl⟩ := hrel
    go_wp2_with fail
    go_ret
    exact ⟨rfl, Below.refl _ _⟩
theorem qwhere_any (K : Nat) (cb : Array Value) (P : Raw → Bool) (L : List Raw) (v : Value) (w : World) (eg : ∀ args w, (callFunc K args).run Tryz.prog w = .ok (.enter K args) w) (hL : L.length ≤ 100000) (hv : EsAt w v L)
    (hK : ∀ i (h : i < L.length) W, Below w.heap.size w W → Calls Tryz.prog K (#[.string L[i].1.2] ++ cb) W fun e w' => e = .returned (.bool (P L[i])) ∧ Below W.heap.size W w') :
    Calls Tryz.prog 78 #[v, .func (.func K) #[] cb] w fun e w' => ∃ v', e = .returned v' ∧ EsAt w' v' (L.filter P) ∧ Below w.heap.size w w' := by
  obtain ⟨a, c, rfl, _, hs, h⟩ := hv
  have hsf : ∀ r, r ∈ L.filter P → slR r := fun r hr => hs r (List.mem_filter.1 hr).1
  cases L with
  | nil => exact (qwhere_none K cb a c w).mono fun e w' ⟨h1, h2⟩ => ⟨_, h1, ⟨none, 0, rfl, Nat.le_refl _, fun r hr => absurd hr (by simp), fun h => absurd rfl h⟩, h2⟩
  | cons x r =>
    obtain ⟨b, o, rfl, h2⟩ := h (by simp)
    exact (qwhere_some K cb P (x :: r) b o c w eg hL hs h2 hK).mono fun e w' ⟨v', h1, h2, h3⟩ => ⟨v', h1, own_es hsf h2, h3⟩
end Ve
end Go.Proofs.YtnkgjddkdikikaaGreatDoor
namespace Go.Proofs.YtnkgjddkdikikaaGreatDoor
open Go.RowKit Go.Maps
namespace Ve
def likSL (Q : List Raw) (t : ByteArray) (s : ByteArray × Int) (v : ByteArray) : ByteArray × Int := if s.2 < (rkV Q t v : Int) then (v, (rkV Q t v : Int)) else s
def likNL (Q : List Raw) (t : ByteArray) (X : List ByteArray) (i : Nat) : ByteArray × Int := (X.take i).foldl (likSL Q t) (⟨#[]⟩, -1)
theorem likNL_next {Q : List Raw} {t : ByteArray} {X : List ByteArray} {i : Nat} (h : i < X.length) : likNL Q t X (i + 1) = likSL Q t (likNL Q t X i) X[i] := by
  unfold likNL
  rw [List.take_succ_eq_append_getElem h, List.foldl_append]; rfl
structure LikL (Q : List Raw) (t : ByteArray) (X : List ByteArray) (i : Nat) (s : ByteArray × Int) : Prop where
  z : i = 0 → s = (⟨#[]⟩, -1)
  p : 0 < i → ∃ j, ∃ hj : j < X.length, j < i ∧ s = (X[j], (rkV Q t X[j] : Int)) ∧ (∀ k (hk : k < X.length), k < i → rkV Q t X[k] ≤ rkV Q t X[j]) ∧ ∀ k (hk : k < X.length), k < j → rkV Q t X[k] < rkV Q t X[j]
theorem likNL_is {Q : List Raw} {t : ByteArray} {X : List ByteArray} : ∀ i, i ≤ X.length → LikL Q t X i (likNL Q t X i)
  | 0, _ => ⟨fun _ => rfl, fun h => absurd h (Nat.lt_irrefl _)⟩
  | i + 1, hi => by
    have h : i < X.length := hi
    have ih := likNL_is (Q := Q) (t := t) (X := X) i (Nat.le_of_lt h)
    rw [likNL_next h]
    refine ⟨fun e => by omega, fun _ => ?_⟩
    unfold likSL
    by_cases h0 : i = 0
    · rw [ih.z h0]
      rw [if_pos (show (-1 : Int) < (rkV Q t X[i] : Int) by omega)]
      refine ⟨i, h, by omega, rfl, fun k hk hki => ?_, fun k hk hki => by omega⟩
      have : k = i := by omega
      subst this; exact Nat.le_refl _
    · obtain ⟨j, hj, hji, hs, h1, h2⟩ := ih.p (by omega)
      rw [hs]
      by_cases hc : ((rkV Q t X[j] : Nat) : Int) < (rkV Q t X[i] : Int)
      · rw [if_pos hc]
        refine ⟨i, h, by omega, rfl, fun k hk hki => ?_, fun k hk hki => ?_⟩
        · rcases Nat.lt_or_ge k i with h3 | h3
          · have := h1 k hk h3; omega
          · have : k = i := by omega
            subst this; exact Nat.le_refl _
        · have := h1 k hk hki; omega
      · rw [if_neg hc]
        refine ⟨j, hj, by omega, rfl, fun k hk hki => ?_, fun k hk hkj => h2 k hk hkj⟩
        rcases Nat.lt_or_ge k i with h3 | h3
        · exact h1 k hk h3
        · have : k = i := by omega
          subst this; omega
end Ve
end Go.Proofs.YtnkgjddkdikikaaGreatDoor
namespace Go.Proofs.YtnkgjddkdikikaaGreatDoor
open Go.RowKit
namespace Ve
theorem does_bad (s h : ByteArray) (w : World) (hs : s.size < 4294967281) (h0 : verErr s.data.toList ≠ 0) :
    Calls Tryz.prog 157 #[.string s, .string h] w fun e w' => e = .returned (.bool false) ∧ Below w.heap.size w w' := by
  have HV := hid (verOf_any s w hs)
  have HH := hid h0
  have hz : decide (0 < ((verErr s.data.toList : Nat) : Int)) = true := decide_eq_true (by omega)
  clear h0
  go_enter Tryz.func157, Tryz.ntmps157
  go_wp2_with fail
  refine HV.out.mono ?_
  rintro e w1 ⟨h1, hb⟩
  have HB := hid hb
  clear hb
  rcases h1 with ⟨_, rfl⟩ | ⟨h1, _⟩
  · generalize ((verErr s.data.toList : Nat) : Int) = c at *
    go_wp2_with fail
    go_ret
    exact ⟨rfl, HB.out.alloc HB.out.size _⟩
  · exact absurd h1 HH.out
theorem does_same (x y z : Int) (X : List ByteArray) (s : ByteArray) (w : World) (hA : Calls Tryz.prog 39 #[.string s] w fun e w' => GoodV w w' e x y z X) :
    Calls Tryz.prog 157 #[.string s, .string s] w fun e w' => e = .returned (.bool true) ∧ Below w.heap.size w w' := by
  have he := str_eq s
  have HA := hid hA
  clear hA
  go_enter Tryz.func157, Tryz.ntmps157
  go_wp2_with fail
  refine HA.out.mono ?_
  rintro e w1 ⟨⟨sa, ca, rfl, _⟩, hb1⟩
  have HB1 := hid hb1
  have HBA := hid ((Below.refl w1.heap.size w1).alloc (Nat.le_refl _) (.cells #[.int .i64 x, .int .i64 y, .int .i64 z, .slice sa X.length ca] 68))
  clear hb1
  go_wp2_with fail
  go_ret
  exact ⟨rfl, HB1.out.trans (HBA.out.mono HB1.out.size)⟩
set_option maxHeartbeats 1000000 in
theorem does_no (x y z : Int) (X : List ByteArray) (s h : ByteArray) (w : World) (hA : Calls Tryz.prog 39 #[.string s] w fun e w' => GoodV w w' e x y z X) (hne : (s.toList == h.toList) = false) (hH : ∀ W, Calls Tryz.prog 88 #[.string h] W fun e w' => HeadP h.data.toList W w' e) (hk : headOk h.data.toList = false) :
    Calls Tryz.prog 157 #[.string s, .string h] w fun e w' => e = .returned (.bool false) ∧ Below w.heap.size w w' := by
  have HH := hid hH
  clear hH
  have HK := hid hk
  clear hk
  have HA := hid hA
  clear hA
  go_enter Tryz.func157, Tryz.ntmps157
  go_wp2_with fail
  refine HA.out.mono ?_
  rintro e w1 ⟨⟨sa, ca, rfl, _⟩, hb1⟩
  have HB1 := hid hb1
  have HBA := hid ((Below.refl w1.heap.size w1).alloc (Nat.le_refl _) (.cells #[.int .i64 x, .int .i64 y, .int .i64 z, .slice sa X.length ca] 68))
  clear hb1
  go_wp2_with fail
  refine (HH.out _).mono ?_
  rintro e w2 ⟨h1, hb2⟩
  obtain ⟨⟨r0, r1, r2, r3⟩, rf, rz⟩ := res4 (hb2.mono (by simp))
  have HB12 := hid (HBA.out.trans (hb2.mono (by simp)))
  have HB3 := hid (HB1.out.trans (HB12.out.mono HB1.out.size))
  clear hb2
  rcases h1 with ⟨_, c, hc, rfl, _⟩ | ⟨h1, _⟩
  · have hz : decide (0 < c) = true := decide_eq_true hc
    go_wp2_with fail
    go_ret
    exact ⟨rfl, HB3.out⟩
  · rw [HK.out] at h1; cases h1
set_option maxHeartbeats 1000000 in
theorem does_1n (x y z a : Int) (X : List ByteArray) (s h : ByteArray) (w : World) (hA : Calls Tryz.prog 39 #[.string s] w fun e w' => GoodV w w' e x y z X) (hne : (s.toList == h.toList) = false) (hH : ∀ W, Calls Tryz.prog 88 #[.string h] W fun e w' => HeadP h.data.toList W w' e) (hk : headOk h.data.toList = true) (hx : numsOf (headOf h.data.toList) = [a]) (hn : a ≠ x) :
    Calls Tryz.prog 157 #[.string s, .string h] w fun e w' => e = .returned (.bool false) ∧ Below w.heap.size w w' := by
  have HH := hid hH
  clear hH
  have HK := hid hk
  have HX := hid hx
  clear hk hx
  have hq : (a == x) = false := beq_eq_false_iff_ne.2 hn
  clear hn
  have HA := hid hA
  clear hA
  go_enter Tryz.func157, Tryz.ntmps157
  go_wp2_with fail
  refine HA.out.mono ?_
  rintro e w1 ⟨⟨sa, ca, rfl, _⟩, hb1⟩
  have HB1 := hid hb1
  have HBA := hid ((Below.refl w1.heap.size w1).alloc (Nat.le_refl _) (.cells #[.int .i64 x, .int .i64 y, .int .i64 z, .slice sa X.length ca] 68))
  clear hb1
  go_wp2_with fail
  refine (HH.out _).mono ?_
  rintro e w2 ⟨h1, hb2⟩
  obtain ⟨⟨r0, r1, r2, r3⟩, rf, rz⟩ := res4 (hb2.mono (by simp))
  have HB12 := hid (HBA.out.trans (hb2.mono (by simp)))
  have HB3 := hid (HB1.out.trans (HB12.out.mono HB1.out.size))
  clear hb2
  rcases h1 with ⟨h1, _⟩ | ⟨_, g, cap, rfl, hgc⟩
  · rw [HK.out] at h1; cases h1
  rw [HX.out] at hgc ⊢
  have g0 : w2.cell? ⟨g, 0, none⟩ = some (.int .i64 a) := hgc 0 (by simp)
  clear hgc
  go_wp2_with fail
  refine wp_loop_rounds 1 ?_
  rw [rounds_succ]
  go_wp2_with fail
  go_quiet (fail)
  go_wp2_with fail
  go_ret
  exact ⟨rfl, by first | exact below_drew HB3.out _ | exact below_drew (below_drew HB3.out _) _⟩
set_option maxHeartbeats 1000000 in
theorem does_1y (x y z : Int) (X : List ByteArray) (s h : ByteArray) (w : World) (hA : Calls Tryz.prog 39 #[.string s] w fun e w' => GoodV w w' e x y z X) (hne : (s.toList == h.toList) = false) (hH : ∀ W, Calls Tryz.prog 88 #[.string h] W fun e w' => HeadP h.data.toList W w' e) (hk : headOk h.data.toList = true) (hx : numsOf (headOf h.data.toList) = [x]) :
    Calls Tryz.prog 157 #[.string s, .string h] w fun e w' => e = .returned (.bool true) ∧ Below w.heap.size w w' := by
  have HH := hid hH
  clear hH
  have HK := hid hk
  have HX := hid hx
  clear hk hx
  have HA := hid hA
  clear hA
  go_enter Tryz.func157, Tryz.ntmps157
  go_wp2_with fail
  refine HA.out.mono ?_
  rintro e w1 ⟨⟨sa, ca, rfl, _⟩, hb1⟩
  have HB1 := hid hb1
  have HBA := hid ((Below.refl w1.heap.size w1).alloc (Nat.le_refl _) (.cells #[.int .i64 x, .int .i64 y, .int .i64 z, .slice sa X.length ca] 68))
  clear hb1
  go_wp2_with fail
  refine (HH.out _).mono ?_
  rintro e w2 ⟨h1, hb2⟩
  obtain ⟨⟨r0, r1, r2, r3⟩, rf, rz⟩ := res4 (hb2.mono (by simp))
  have HB12 := hid (HBA.out.trans (hb2.mono (by simp)))
  have HB3 := hid (HB1.out.trans (HB12.out.mono HB1.out.size))
  clear hb2
  rcases h1 with ⟨h1, _⟩ | ⟨_, g, cap, rfl, hgc⟩
  · rw [HK.out] at h1; cases h1
  rw [HX.out] at hgc ⊢
  have g0 : w2.cell? ⟨g, 0, none⟩ = some (.int .i64 x) := hgc 0 (by simp)
  clear hgc
  go_wp2_with fail
  refine wp_loop_rounds 2 ?_
  rw [rounds_succ]
  go_wp2_with fail
  go_quiet (fail)
  go_wp2_with fail
  rw [rounds_succ]
  go_wp2_with fail
  go_ret
  exact ⟨rfl, by first | exact below_drew HB3.out _ | exact below_drew (below_drew HB3.out _) _⟩
set_option maxHeartbeats 1000000 in
theorem does_2n (x y z a b : Int) (X : List ByteArray) (s h : ByteArray) (w : World) (hA : Calls Tryz.prog 39 #[.string s] w fun e w' => GoodV w w' e x y z X) (hne : (s.toList == h.toList) = false) (hH : ∀ W, Calls Tryz.prog 88 #[.string h] W fun e w' => HeadP h.data.toList W w' e) (hk : headOk h.data.toList = true) (hx : numsOf (headOf h.data.toList) = [a, b]) (hn : a ≠ x) :
    Calls Tryz.prog 157 #[.string s, .string h] w fun e w' => e = .returned (.bool false) ∧ Below w.heap.size w w' := by
  have HH := hid hH
  clear hH
  have HK := hid hk
  have HX := hid hx
  clear hk hx
  have hq : (a == x) = false := beq_eq_false_iff_ne.2 hn
  clear hn
  have HA := hid hA
  clear hA
  go_enter Tryz.func157, Tryz.ntmps157
  go_wp2_with fail
  refine HA.out.mono ?_
  rintro e w1 ⟨⟨sa, ca, rfl, _⟩, hb1⟩
  have HB1 := hid hb1
  have HBA := hid ((Below.refl w1.heap.size w1).alloc (Nat.le_refl _) (.cells #[.int .i64 x, .int .i64 y, .int .i64 z, .slice sa X.length ca] 68))
  clear hb1
  go_wp2_with fail
  refine (HH.out _).mono ?_
  rintro e w2 ⟨h1, hb2⟩
  obtain ⟨⟨r0, r1, r2, r3⟩, rf, rz⟩ := res4 (hb2.mono (by simp))
  have HB12 := hid (HBA.out.trans (hb2.mono (by simp)))
  have HB3 := hid (HB1.out.trans (HB12.out.mono HB1.out.size))
  clear hb2
  rcases h1 with ⟨h1, _⟩ | ⟨_, g, cap, rfl, hgc⟩
  · rw [HK.out] at h1; cases h1
  rw [HX.out] at hgc ⊢
  have g0 : w2.cell? ⟨g, 0, none⟩ = some (.int .i64 a) := hgc 0 (by simp)
  have g1 : w2.cell? ⟨g, 1, none⟩ = some (.int .i64 b) := hgc 1 (by simp)
  clear hgc
  go_wp2_with fail
  refine wp_loop_rounds 1 ?_
  rw [rounds_succ]
  go_wp2_with fail
  go_quiet (fail)
  go_wp2_with fail
  go_ret
  exact ⟨rfl, by first | exact below_drew HB3.out _ | exact below_drew (below_drew HB3.out _) _⟩
set_option maxHeartbeats 1000000 in
theorem does_2m (x y z b : Int) (X : List ByteArray) (s h : ByteArray) (w : World) (hA : Calls Tryz.prog 39 #[.string s] w fun e w' => GoodV w w' e x y z X) (hne : (s.toList == h.toList) = false) (hH : ∀ W, Calls Tryz.prog 88 #[.string h] W fun e w' => HeadP h.data.toList W w' e) (hk : headOk h.data.toList = true) (hx : numsOf (headOf h.data.toList) = [x, b]) (hn : b ≠ y) :
    Calls Tryz.prog 157 #[.string s, .string h] w fun e w' => e = .returned (.bool false) ∧ Below w.heap.size w w' := by
  have HH := hid hH
  clear hH
  have HK := hid hk
  have HX := hid hx
  clear hk hx
  have hq : (b == y) = false := beq_eq_false_iff_ne.2 hn
  clear hn
  have HA := hid hA
  clear hA
  go_enter Tryz.func157, Tryz.ntmps157
  go_wp2_with fail
  refine HA.out.mono ?_
  rintro e w1 ⟨⟨sa, ca, rfl, _⟩, hb1⟩
  have HB1 := hid hb1
  have HBA := hid ((Below.refl w1.heap.size w1).alloc (Nat.le_refl _) (.cells #[.int .i64 x, .int .i64 y, .int .i64 z, .slice sa X.length ca] 68))
  clear hb1
  go_wp2_with fail
  refine (HH.out _).mono ?_
  rintro e w2 ⟨h1, hb2⟩
  obtain ⟨⟨r0, r1, r2, r3⟩, rf, rz⟩ := res4 (hb2.mono (by simp))
  have HB12 := hid (HBA.out.trans (hb2.mono (by simp)))
  have HB3 := hid (HB1.out.trans (HB12.out.mono HB1.out.size))
  clear hb2
  rcases h1 with ⟨h1, _⟩ | ⟨_, g, cap, rfl, hgc⟩
  · rw [HK.out] at h1; cases h1
  rw [HX.out] at hgc ⊢
  have g0 : w2.cell? ⟨g, 0, none⟩ = some (.int .i64 x) := hgc 0 (by simp)
  have g1 : w2.cell? ⟨g, 1, none⟩ = some (.int .i64 b) := hgc 1 (by simp)
  clear hgc
  go_wp2_with fail
  refine wp_loop_rounds 2 ?_
  rw [rounds_succ]
  go_wp2_with fail
  go_quiet (fail)
  go_wp2_with fail
  rw [rounds_succ]
  go_wp2_with fail
  go_quiet (fail)
  go_wp2_with fail
  go_ret
  exact ⟨rfl, by first | exact below_drew HB3.out _ | exact below_drew (below_drew HB3.out _) _⟩
set_option maxHeartbeats 1000000 in
theorem does_2y (x y z : Int) (X : List ByteArray) (s h : ByteArray) (w : World) (hA : Calls Tryz.prog 39 #[.string s] w fun e w' => GoodV w w' e x y z X) (hne : (s.toList == h.toList) = false) (hH : ∀ W, Calls Tryz.prog 88 #[.string h] W fun e w' => HeadP h.data.toList W w' e) (hk : headOk h.data.toList = true) (hx : numsOf (headOf h.data.toList) = [x, y]) :
    Calls Tryz.prog 157 #[.string s, .string h] w fun e w' => e = .returned (.bool true) ∧ Below w.heap.size w w' := by
  have HH := hid hH
  clear hH
  have HK := hid hk
  have HX := hid hx
  clear hk hx
  have HA := hid hA
  clear hA
  go_enter Tryz.func157, Tryz.ntmps157
  go_wp2_with fail
  refine HA.out.mono ?_
  rintro e w1 ⟨⟨sa, ca, rfl, _⟩, hb1⟩
  have HB1 := hid hb1
  have HBA := hid ((Below.refl w1.heap.size w1).alloc (Nat.le_refl _) (.cells #[.int .i64 x, .int .i64 y, .int .i64 z, .slice sa X.length ca] 68))
  clear hb1
  go_wp2_with fail
  refine (HH.out _).mono ?_
  rintro e w2 ⟨h1, hb2⟩
  obtain ⟨⟨r0, r1, r2, r3⟩, rf, rz⟩ := res4 (hb2.mono (by simp))
  have HB12 := hid (HBA.out.trans (hb2.mono (by simp)))
  have HB3 := hid (HB1.out.trans (HB12.out.mono HB1.out.size))
  clear hb2
  rcases h1 with ⟨h1, _⟩ | ⟨_, g, cap, rfl, hgc⟩
  · rw [HK.out] at h1; cases h1
  rw [HX.out] at hgc ⊢
  have g0 : w2.cell? ⟨g, 0, none⟩ = some (.int .i64 x) := hgc 0 (by simp)
  have g1 : w2.cell? ⟨g, 1, none⟩ = some (.int .i64 y) := hgc 1 (by simp)
  clear hgc
  go_wp2_with fail
  refine wp_loop_rounds 3 ?_
  rw [rounds_succ]
  go_wp2_with fail
  go_quiet (fail)
  go_wp2_with fail
  rw [rounds_succ]
  go_wp2_with fail
  go_quiet (fail)
  go_wp2_with fail
  rw [rounds_succ]
  go_wp2_with fail
  go_ret
  exact ⟨rfl, by first | exact below_drew HB3.out _ | exact below_drew (below_drew HB3.out _) _⟩
theorem does_any (s h : ByteArray) (w : World) (hs : s.size < 999999) (hh : h.size < 4294967281) :
    Calls Tryz.prog 157 #[.string s, .string h] w fun e w' => e = .returned (.bool (beginB s h)) ∧ Below w.heap.size w w' := by
  unfold beginB
  by_cases h1 : verErr s.data.toList = 0
  · obtain ⟨X, hX⟩ : ∃ X, bl X = preOf s.data.toList := ⟨_, bl_strs _⟩
    have hA := verOf_good s w (by omega) h1 X hX
    rw [decide_eq_true h1, Bool.true_and]
    by_cases h2 : h = s
    · subst h2
      rw [decide_eq_true rfl, Bool.true_or]
      exact does_same _ _ _ X h w hA
    · rw [decide_eq_false h2, Bool.false_or]
      have hne := str_ne (fun e : s = h => h2 e.symm)
      have hH := fun W => headOf_any h W hh
      cases hk : headOk h.data.toList
      · exact does_no _ _ _ X s h w hA hne hH hk
      · rw [Bool.true_and]
        have hp := headOf_pos h.data.toList
        have hl : (headOf h.data.toList).length ≤ 2 := by
          unfold headOk at hk
          simp only [Bool.and_eq_true, decide_eq_true_eq] at hk
          exact hk.2.2
        have hlen := numsOf_len (headOf h.data.toList)
        by_cases l1 : (headOf h.data.toList).length = 1
        · obtain ⟨a, ha⟩ := List.length_eq_one_iff.1 (hlen.trans l1)
          rw [l1, ha]
          by_cases e : a = nAt s.data.toList 0
          · rw [e] at ha
            rw [show ([a] == List.take 1 [nAt s.data.toList 0, nAt s.data.toList 1]) = true by rw [e]; simp]
            exact does_1y _ _ _ X s h w hA hne hH hk ha
          · rw [show ([a] == List.take 1 [nAt s.data.toList 0, nAt s.data.toList 1]) = false by simp [e]]
            exact does_1n _ _ _ a X s h w hA hne hH hk ha e
        · have l2 : (headOf h.data.toList).length = 2 := by omega
          obtain ⟨a, b, ha⟩ : ∃ a b, numsOf (headOf h.data.toList) = [a, b] := by
            match hq : numsOf (headOf h.data.toList), hlen.trans l2 with
            | [a, b], _ => exact ⟨a, b, rfl⟩
          rw [l2, ha]
          by_cases e : a = nAt s.data.toList 0
          · by_cases e2 : b = nAt s.data.toList 1
            · rw [e, e2] at ha
              rw [show ([a, b] == List.take 2 [nAt s.data.toList 0, nAt s.data.toList 1]) = true by rw [e, e2]; simp]
              exact does_2y _ _ _ X s h w hA hne hH hk ha
            · rw [e] at ha
              rw [show ([a, b] == List.take 2 [nAt s.data.toList 0, nAt s.data.toList 1]) = false by simp [e2]]
              exact does_2m _ _ _ b X s h w hA hne hH hk ha e2
          · rw [show ([a, b] == List.take 2 [nAt s.data.toList 0, nAt s.data.toList 1]) = false by simp [e]]
            exact does_2n _ _ _ a b X s h w hA hne hH hk ha e
  · rw [decide_eq_false h1, Bool.false_and]
    exact does_bad s h w (by omega) h1
end Ve
end Go.Proofs.YtnkgjddkdikikaaGreatDoor
