/-
  PkB UtC PkQ PkE
-/
import Derived.Test.YtnkgjddkdikikaaGreatDoorPq3
import Derived.Test.YtnkgjddkdikikaaGreatDoorPq4
import Derived.Test.YtnkgjddkdikikaaGreatDoorPq7
import Derived.Test.YtnkgjddkdikikaaGreatDoorPq10
import Derived.Test.YtnkgjddkdikikaaGreatDoorPq16
import Derived.Test.YtnkgjddkdikikaaGreatDoorPq13
import Derived.Test.YtnkgjddkdikikaaGreatDoorPq5
import Derived.Test.YtnkgjddkdikikaaGreatDoorPq12
import Derived.Test.YtnkgjddkdikikaaGreatDoorPq24
import Derived.Test.YtnkgjddkdikikaaGreatDoorPq45
import Derived.Test.YtnkgjddkdikikaaGreatDoorPq17
import Derived.Test.YtnkgjddkdikikaaGreatDoorPq14
import Derived.Test.YtnkgjddkdikikaaGreatDoorPq2
import Derived.Test.YtnkgjddkdikikaaGreatDoorPq23
import Derived.Test.YtnkgjddkdikikaaGreatDoorPq27
import Derived.Test.YtnkgjddkdikikaaGreatDoorPq29
import Derived.Test.YtnkgjddkdikikaaGreatDoorPq31
import Derived.Test.YtnkgjddkdikikaaGreatDoorPq35
import Derived.Test.YtnkgjddkdikikaaGreatDoorPq37
import Derived.Test.YtnkgjddkdikikaaGreatDoorPq32
import Derived.Test.YtnkgjddkdikikaaGreatDoorPq26
import Derived.Test.YtnkgjddkdikikaaGreatDoorPq49
import Derived.Test.YtnkgjddkdikikaaGreatDoorPq34
import Derived.Test.YtnkgjddkdikikaaGreatDoorPq64
import Derived.Test.YtnkgjddkdikikaaGreatDoorPq65
import Derived.Test.YtnkgjddkdikikaaGreatDoorPq84
import Derived.Test.YtnkgjddkdikikaaGreatDoorPq21
import Derived.Test.YtnkgjddkdikikaaGreatDoorPq48
import Derived.Test.YtnkgjddkdikikaaGreatDoorPq22
import Derived.Test.YtnkgjddkdikikaaGreatDoorPq63
import Derived.Test.YtnkgjddkdikikaaGreatDoorPq1
namespace Go.Proofs.YtnkgjddkdikikaaGreatDoor
open Go.RowKit
namespace Ve
theorem insT_nil (s : ByteArray) : insT [] s = [s] := rfl
set_option maxRecDepth 100000 in
set_option maxHeartbeats 8000000 in
theorem rwith_any (X : List ByteArray) (s : ByteArray) (u : Value) (B : Nat) (w : World) (hB : B ≤ w.heap.size) (hX : X.length ≤ 1000000) (ho : w.ownsRow B 9 1 u X.length (X.map Value.string)) (hnl : X = [] → u = .slice none 0 0) :
    Calls Tryz.prog 111 #[u, .string s] w fun e w' => ∃ u', e = .returned u' ∧ w'.ownsRow B 9 1 u' (insT X s).length ((insT X s).map Value.string) ∧ Below w.heap.size w w' := by
  obtain ⟨i0, hi, hz0, hz1, hz2⟩ := info_parts infoStr
  by_cases hX0 : X = []
  · subst hX0
    obtain rfl := hnl rfl
    clear hnl ho
    rw [insT_nil]
    go_enter Tryz.func111, Tryz.ntmps111
    go_wp2_with fail
    go_loopw [5] (fun a wr => a = .int .i64 0 ∧ wr = w) (fun _ _ => 0)
    case atStart => exact ⟨rfl, rfl⟩
    case round =>
      obtain ⟨rfl, rfl⟩ := hrel
      go_wp2_with (first
        | (at_builtin; refine wpList_append_own_none rfl _ _ 29 rfl 0 9 i0 1 Tryz.underlying29 hi _ _ _ rfl (World.ownsRow_nil _ _ _ _) rfl ?_)
        | (at_builtin; refine wpList_append_own _ rfl _ _ 29 rfl wr.heap.size 9 i0 (.string ByteArray.empty) 1 16 Tryz.underlying29 hi hz0 hz1 hz2 rfl (by decide) _ _ _ rfl (World.ownsRow_nil _ _ _ _) ⟨wr.heap.size, 0, none⟩ 1 1 [.string s] rfl rfl ?c1 ?c2 ?c3 ?c4 ?c5 ?_))
      case c1 =>
        intro t u ht
        match t, ht with
        | 0, ht => simp at ht; subst ht; simp [Addr.add]
      case c2 => intro u hu; simp at hu; subst hu; rfl
      case c3 => unfold maxLen; omega
      case c4 => omega
      case c5 => simp
      intro v1 W1 hown1 hgr1 _
      have HO1 := hid hown1
      have HB1 := hid (((Below.refl wr.heap.size wr).alloc (Nat.le_refl _) _).grown hgr1 (by simp) (fun t ht => by cases ht))
      clear hown1 hgr1
      go_wp2_with (at_builtin; refine wpList_append_own_none rfl _ _ 29 rfl _ 9 i0 1 Tryz.underlying29 hi _ _ _ rfl (HO1.out) rfl ?_)
      go_ret
      exact ⟨_, rfl, by simpa using owns_mono HO1.out hB, HB1.out⟩
  · obtain ⟨g, cp, rfl, hg, hgz, -⟩ := owned_cells ho hX0
    have HO := hid ho
    have HCL := hid (owned_at ho)
    have hcap := owned_cap ho
    have hcp : cp ≤ 9223372036854775807 := hcap.2
    have HCP := hid hcap
    have HAT := hid (fun (a : Nat) h1 h2 h3 => insT_at (s := s) (X := X) (a := a) h1 h2 h3)
    clear hnl ho hcap
    go_enter Tryz.func111, Tryz.ntmps111
    go_wp2_with fail
    go_loopw [5] (fun a wr => ∃ j : Nat, j ≤ X.length ∧ a = .int .i64 j ∧ Hid (∀ t (ht : t < X.length), t < j → lt X[t] s = true) ∧ wr = w) (fun a _ => X.length - (intOf a).toNat)
    case atStart => exact ⟨0, Nat.zero_le _, rfl, hid (fun t _ h => absurd h (Nat.not_lt_zero t)), rfl⟩
    case round =>
      obtain ⟨j, hj, rfl, HLT, rfl⟩ := hrel
      by_cases hjX : j < X.length
      · have hjI := ix_lt hjX
        have hj0 := ix_pos j
        have x1 := HCL.out j hjX
        have hls := lss_lt X[j] s
        cases hl : lt X[j] s
        · rw [hl] at hls
          have HIX := hid (HAT.out j hj HLT.out (fun _ => hl))
          by_cases he : X[j] = s
          · have HIN := hid (show insT X s = X by rw [HIX.out, if_pos (by rw [List.getElem?_eq_getElem hjX, he])])
            have hss : (X[j].toList == s.toList) = true := by rw [he]; exact beq_self_eq_true _
            clear hl he HIX HLT
            generalize X[j] = x at *
            go_wp2_with fail
            go_ret
            exact ⟨_, rfl, by rw [HIN.out]; exact HO.out, Below.refl _ _⟩
          · have HIN := hid (show insT X s = X.take j ++ s :: X.drop j by rw [HIX.out, if_neg (by rw [List.getElem?_eq_getElem hjX]; exact fun e => he (Option.some.inj e))])
            have hss := str_ne he
            have t2 : (j : Int) ≤ (cp : Int) := by have := HCP.out.1; omega
            have t3 : (j : Int) ≤ (X.length : Int) := by omega
            have t4 : (X.length : Int) ≤ (cp : Int) := by have := HCP.out.1; omega
            clear hl he HIX HLT
            generalize X[j] = x at *
            obtain ⟨XS, hXS⟩ : ∃ XS, XS = (X.take j).map Value.string := ⟨_, rfl⟩
            have HXS := hid hXS
            have HXL := hid (show XS.length = j by rw [hXS]; simp; omega)
            have HXN := hid (show ∀ t u, XS[t]? = some u → wr.cell? ((⟨g, 0, none⟩ : Addr).add t) = some u from fun t u ht => news_at HCL.out 0 j t u (by rw [hXS] at ht; simpa using ht))
            have HXO := hid (show ∀ u, u ∈ XS → u.oneCell' = true from fun u hu => by rw [hXS] at hu; obtain ⟨x, _, rfl⟩ := List.mem_map.1 hu; rfl)
            clear hXS
            go_wp2_with (at_builtin; refine wpList_append_own _ rfl _ _ 29 rfl wr.heap.size 9 i0 (.string ByteArray.empty) 1 16 Tryz.underlying29 hi hz0 hz1 hz2 rfl (by decide) _ _ _ rfl (World.ownsRow_nil _ _ _ _) ⟨g, 0, none⟩ j cp XS rfl ?c0 ?c1 ?c2 ?c3 ?c4 ?c5 ?_)
            first | (case c0 => rw [HXL.out]; simp) | (case c0 => exact HXL.out) | skip
            case c1 => first | exact HXN.out | (intro t u ht; have h := HXN.out t u ht; rw [Addr.add_lit] at h; simpa using h)
            case c2 => exact HXO.out
            case c3 => unfold maxLen; omega
            case c4 => omega
            first | (case c5 => exact Nat.le_refl _) | skip
            intro v1 W1 hown1 hgr1 _
            have HO1 := hid hown1
            have HB1 := hid (grown_below hgr1)
            have hw1 := HB1.out.size
            clear hown1 hgr1
            go_wp2_with (at_builtin; refine wpList_append_own _ rfl _ _ 29 rfl wr.heap.size 9 i0 (.string ByteArray.empty) 1 16 Tryz.underlying29 hi hz0 hz1 hz2 rfl (by decide) _ _ _ rfl (HO1.out.alloc _) ⟨W1.heap.size, 0, none⟩ 1 1 [.string s] rfl rfl ?d1 ?d2 ?d3 ?d4 ?d5 ?_)
            case d1 =>
              intro t u ht
              match t, ht with
              | 0, ht => simp at ht; subst ht; simp [Addr.add]
            case d2 => intro u hu; simp at hu; subst hu; rfl
            case d3 => unfold maxLen; omega
            case d4 => omega
            case d5 => simp; omega
            intro v2 W2 hown2 hgr2 _
            have HO2 := hid hown2
            have HB2 := hid (rel_app HB1.out.size HB1.out HO1.out (Below.refl _ _) hgr2)
            have HCL2 := hid (fun t (ht : t < X.length) => cell_below HB2.out (HCL.out t ht))
            have hw2 := HB2.out.size
            clear hown2 hgr2
            go_wp2_with (at_builtin; refine wpList_append_own _ rfl _ _ 29 rfl wr.heap.size 9 i0 (.string ByteArray.empty) 1 16 Tryz.underlying29 hi hz0 hz1 hz2 rfl (by decide) _ _ _ rfl HO2.out ⟨g, j, none⟩ (X.length - j) (cp - j) ((X.drop j).map Value.string) rfl ?e0 ?e1 ?e2 ?e3 ?e4 ?e5 ?_)
            case e0 => simp
            case e1 => intro t u ht; exact news_at HCL2.out j (X.length - j) t u (by rw [List.take_of_length_le (by simp)]; exact ht)
            case e2 => intro u hu; obtain ⟨x, _, rfl⟩ := List.mem_map.1 hu; rfl
            case e3 => unfold maxLen; omega
            case e4 => omega
            case e5 => exact hw2
            intro v3 W3 hown3 hgr3 _
            have HB3 := hid (HB2.out.grown hgr3 hw2 (fun t ht => (HO2.out.lt t ht).1))
            have HO3 := hid (show W3.ownsRow B 9 1 v3 (X.take j ++ s :: X.drop j).length ((X.take j ++ s :: X.drop j).map Value.string) by
              have h := owns_mono hown3 hB
              rw [HXS.out] at h
              have e1 : (X.take j ++ s :: X.drop j).length = j + 1 + (X.length - j) := by simp; omega
              rw [e1]
              simpa using h)
            clear hown3 hgr3
            go_wp2_with fail
            go_ret
            exact ⟨_, rfl, by rw [HIN.out]; exact HO3.out, HB3.out⟩
        · have HL2 := hid (show ∀ t (ht : t < X.length), t < j + 1 → lt X[t] s = true from fun t ht htj => by
            rcases Nat.lt_or_ge t j with h | h
            · exact HLT.out t ht h
            · have : t = j := by omega
              subst this; exact hl)
          have HJX := hid hjX
          rw [hl] at hls
          clear hl HLT
          generalize X[j] = x at *
          go_wp2_with fail
          go_roundw
          case rel => exact ⟨j + 1, HJX.out, by first | exact nr_idx j | exact nx_idx HJX.out (by omega : X.length ≤ 1000000), HL2, by first | rfl | trivial⟩
          case measure => first | exact nr_meas HJX.out | exact nx_meas HJX.out (by omega : X.length ≤ 1000000)
      · obtain rfl : j = X.length := by omega
        have HIN := hid (show insT X s = X.take X.length ++ s :: X.drop X.length by rw [HAT.out X.length (Nat.le_refl _) HLT.out (fun h => absurd h (Nat.lt_irrefl _)), if_neg (by simp)])
        have hjI := ix_nlt hjX
        clear HLT hjX
        by_cases hcx : cp = X.length
        · subst hcx
          have t1 : (0 : Int) ≤ (X.length : Int) := by omega
          have t2 : (X.length : Int) ≤ (X.length : Int) := by omega
          obtain ⟨XS, hXS⟩ : ∃ XS, XS = (X.take (X.length)).map Value.string := ⟨_, rfl⟩
          have HXS := hid hXS
          have HXL := hid (show XS.length = (X.length) by rw [hXS]; simp)
          have HXN := hid (show ∀ t u, XS[t]? = some u → wr.cell? ((⟨g, 0, none⟩ : Addr).add t) = some u from fun t u ht => news_at HCL.out 0 (X.length) t u (by rw [hXS] at ht; simpa using ht))
          have HXO := hid (show ∀ u, u ∈ XS → u.oneCell' = true from fun u hu => by rw [hXS] at hu; obtain ⟨x, _, rfl⟩ := List.mem_map.1 hu; rfl)
          clear hXS
          go_wp2_with (at_builtin; refine wpList_append_own _ rfl _ _ 29 rfl wr.heap.size 9 i0 (.string ByteArray.empty) 1 16 Tryz.underlying29 hi hz0 hz1 hz2 rfl (by decide) _ _ _ rfl (World.ownsRow_nil _ _ _ _) ⟨g, 0, none⟩ (X.length) X.length XS rfl ?c0 ?c1 ?c2 ?c3 ?c4 ?c5 ?_)
          first | (case c0 => rw [HXL.out]; simp) | (case c0 => exact HXL.out) | skip
          case c1 => first | exact HXN.out | (intro t u ht; have h := HXN.out t u ht; rw [Addr.add_lit] at h; simpa using h)
          case c2 => exact HXO.out
          case c3 => unfold maxLen; omega
          case c4 => omega
          first | (case c5 => exact Nat.le_refl _) | skip
          intro v1 W1 hown1 hgr1 _
          have HO1 := hid hown1
          have HB1 := hid (grown_below hgr1)
          have hw1 := HB1.out.size
          clear hown1 hgr1
          go_wp2_with (at_builtin; refine wpList_append_own _ rfl _ _ 29 rfl wr.heap.size 9 i0 (.string ByteArray.empty) 1 16 Tryz.underlying29 hi hz0 hz1 hz2 rfl (by decide) _ _ _ rfl (HO1.out.alloc _) ⟨W1.heap.size, 0, none⟩ 1 1 [.string s] rfl rfl ?d1 ?d2 ?d3 ?d4 ?d5 ?_)
          case d1 =>
            intro t u ht
            match t, ht with
            | 0, ht => simp at ht; subst ht; simp [Addr.add]
          case d2 => intro u hu; simp at hu; subst hu; rfl
          case d3 => unfold maxLen; omega
          case d4 => omega
          case d5 => simp; omega
          intro v2 W2 hown2 hgr2 _
          have HO2 := hid hown2
          have HB2 := hid (rel_app HB1.out.size HB1.out HO1.out (Below.refl _ _) hgr2)
          have HCL2 := hid (fun t (ht : t < X.length) => cell_below HB2.out (HCL.out t ht))
          have hw2 := HB2.out.size
          clear hown2 hgr2
          go_wp2_with (at_builtin; refine wpList_append_own _ rfl _ _ 29 rfl wr.heap.size 9 i0 (.string ByteArray.empty) 1 16 Tryz.underlying29 hi hz0 hz1 hz2 rfl (by decide) _ _ _ rfl HO2.out _ _ _ [] rfl ?e0 ?e1 ?e2 ?e3 ?e4 ?e5 ?_)
          case e0 => simp
          case e1 => intro t u ht; simp at ht
          case e2 => intro u hu; cases hu
          case e3 => unfold maxLen; omega
          case e4 => omega
          case e5 => exact hw2
          intro v3 W3 hown3 hgr3 _
          have HB3 := hid (HB2.out.grown hgr3 hw2 (fun t ht => (HO2.out.lt t ht).1))
          have HO3 := hid (show W3.ownsRow B 9 1 v3 (X.take (X.length) ++ s :: X.drop (X.length)).length ((X.take (X.length) ++ s :: X.drop (X.length)).map Value.string) by
            have h := owns_mono hown3 hB
            rw [HXS.out] at h
            have e1 : (X.take (X.length) ++ s :: X.drop (X.length)).length = X.length + 1 := by simp
            rw [e1]
            simpa using h)
          clear hown3 hgr3
          go_wp2_with fail
          go_ret
          exact ⟨_, rfl, by rw [HIN.out]; exact HO3.out, HB3.out⟩
        · have hcx1 : X.length < cp := by have := HCP.out.1; omega
          have hcx2 : (X.length : Int) < (cp : Int) := by omega
          have t1 : (0 : Int) ≤ (X.length : Int) := by omega
          have t2 : (X.length : Int) ≤ (cp : Int) := by omega
          have t3 : (X.length : Int) ≤ (X.length : Int) := by omega
          obtain ⟨XS, hXS⟩ : ∃ XS, XS = (X.take (X.length)).map Value.string := ⟨_, rfl⟩
          have HXS := hid hXS
          have HXL := hid (show XS.length = (X.length) by rw [hXS]; simp)
          have HXN := hid (show ∀ t u, XS[t]? = some u → wr.cell? ((⟨g, 0, none⟩ : Addr).add t) = some u from fun t u ht => news_at HCL.out 0 (X.length) t u (by rw [hXS] at ht; simpa using ht))
          have HXO := hid (show ∀ u, u ∈ XS → u.oneCell' = true from fun u hu => by rw [hXS] at hu; obtain ⟨x, _, rfl⟩ := List.mem_map.1 hu; rfl)
          clear hXS
          go_wp2_with (at_builtin; refine wpList_append_own _ rfl _ _ 29 rfl wr.heap.size 9 i0 (.string ByteArray.empty) 1 16 Tryz.underlying29 hi hz0 hz1 hz2 rfl (by decide) _ _ _ rfl (World.ownsRow_nil _ _ _ _) ⟨g, 0, none⟩ (X.length) cp XS rfl ?c0 ?c1 ?c2 ?c3 ?c4 ?c5 ?_)
          first | (case c0 => rw [HXL.out]; simp) | (case c0 => exact HXL.out) | skip
          case c1 => first | exact HXN.out | (intro t u ht; have h := HXN.out t u ht; rw [Addr.add_lit] at h; simpa using h)
          case c2 => exact HXO.out
          case c3 => unfold maxLen; omega
          case c4 => omega
          first | (case c5 => exact Nat.le_refl _) | skip
          intro v1 W1 hown1 hgr1 _
          have HO1 := hid hown1
          have HB1 := hid (grown_below hgr1)
          have hw1 := HB1.out.size
          clear hown1 hgr1
          go_wp2_with (at_builtin; refine wpList_append_own _ rfl _ _ 29 rfl wr.heap.size 9 i0 (.string ByteArray.empty) 1 16 Tryz.underlying29 hi hz0 hz1 hz2 rfl (by decide) _ _ _ rfl (HO1.out.alloc _) ⟨W1.heap.size, 0, none⟩ 1 1 [.string s] rfl rfl ?d1 ?d2 ?d3 ?d4 ?d5 ?_)
          case d1 =>
            intro t u ht
            match t, ht with
            | 0, ht => simp at ht; subst ht; simp [Addr.add]
          case d2 => intro u hu; simp at hu; subst hu; rfl
          case d3 => unfold maxLen; omega
          case d4 => omega
          case d5 => simp; omega
          intro v2 W2 hown2 hgr2 _
          have HO2 := hid hown2
          have HB2 := hid (rel_app HB1.out.size HB1.out HO1.out (Below.refl _ _) hgr2)
          have HCL2 := hid (fun t (ht : t < X.length) => cell_below HB2.out (HCL.out t ht))
          have hw2 := HB2.out.size
          clear hown2 hgr2
          go_wp2_with (at_builtin; refine wpList_append_own _ rfl _ _ 29 rfl wr.heap.size 9 i0 (.string ByteArray.empty) 1 16 Tryz.underlying29 hi hz0 hz1 hz2 rfl (by decide) _ _ _ rfl HO2.out _ _ _ [] rfl ?e0 ?e1 ?e2 ?e3 ?e4 ?e5 ?_)
          case e0 => simp
          case e1 => intro t u ht; simp at ht
          case e2 => intro u hu; cases hu
          case e3 => unfold maxLen; omega
          case e4 => omega
          case e5 => exact hw2
          intro v3 W3 hown3 hgr3 _
          have HB3 := hid (HB2.out.grown hgr3 hw2 (fun t ht => (HO2.out.lt t ht).1))
          have HO3 := hid (show W3.ownsRow B 9 1 v3 (X.take (X.length) ++ s :: X.drop (X.length)).length ((X.take (X.length) ++ s :: X.drop (X.length)).map Value.string) by
            have h := owns_mono hown3 hB
            rw [HXS.out] at h
            have e1 : (X.take (X.length) ++ s :: X.drop (X.length)).length = X.length + 1 := by simp
            rw [e1]
            simpa using h)
          clear hown3 hgr3
          go_wp2_with fail
          go_ret
          exact ⟨_, rfl, by rw [HIN.out]; exact HO3.out, HB3.out⟩
end Ve
end Go.Proofs.YtnkgjddkdikikaaGreatDoor
namespace Go.Proofs.YtnkgjddkdikikaaGreatDoor
open Go.RowKit Go.Maps
namespace Ve
theorem kept_lenK {L : List ByteArray} {n : Nat} {X : List ByteArray} (g : L.length ≤ 1000) (h : Kept L n X) : X.length ≤ 1000 := by
  have hs : (bl X).length ≤ (bl L).length := nodup_sub (rises_nd h.1) fun t ht => List.mem_of_mem_take (by
    have := ((h.2 t).1 ht).1
    unfold bl at this ⊢
    rw [List.map_take] at this
    exact this)
  rw [bl_len, bl_len] at hs
  omega
set_option maxRecDepth 100000 in
set_option maxHeartbeats 4000000 in
theorem latOf_any (Q : List Raw) (t : ByteArray) (v : Value) (w : World) (hL : Q.length ≤ 1000) (g : Good Q) (hz : ∀ r, r ∈ Q → r.1.1.size ≤ 80 ∧ r.1.2.size ≤ 80) (hK : ∃ Y, KeptT Q t Y) (hv : EsAt w v Q) :
    Calls Tryz.prog 114 #[v, .string t] w fun e w' => e = .returned (.string (latV Q t)) ∧ Below w.heap.size w w' := by
  have HVO := hid (versOf_any Q t v w hL hz hv)
  have HP := hid (show pthR t Q = ofP t Q from (g.ofP t).symm)
  rw [HP.out] at HVO
  have HLK := hid (fun X u W (h : Below w.heap.size w W) (hX : Kept (verL (ofP t Q)) (verL (ofP t Q)).length X) (hu : TxAt W u X) => liked_any Q t X v u W hL (Nat.le_trans (kept_lenK (by rw [verL_len]; exact Nat.le_trans (ofP_len t Q) hL) hX) (by decide)) (verOk_of g hz hX) (hv.below h) hu)
  have HEQ := hid (fun X (hX : Kept (verL (ofP t Q)) (verL (ofP t Q)).length X) => show (likN Q t X X.length).1 = latV Q t by
    obtain ⟨Y, hY⟩ := hK
    exact lik_lat g hX hY)
  obtain ⟨va, vc, hv1, -⟩ := id hv
  subst hv1
  clear hv hz hK HP
  go_enter Tryz.func114, Tryz.ntmps114
  go_wp2_with fail
  refine HVO.out.mono ?_
  rintro e w1 ⟨u, X, rfl, hu, hX, hb⟩
  have HL1 := hid (HLK.out X u w1 hb hX hu)
  rw [HEQ.out X hX] at HL1
  have HB1 := hid hb
  obtain ⟨ua, uc, hu1, -⟩ := hu
  subst hu1
  clear hb hX HVO HLK HEQ
  go_wp2_with fail
  refine HL1.out.mono ?_
  rintro e w2 ⟨rfl, hb⟩
  have HB2 := hid (HB1.out.trans (hb.mono HB1.out.size))
  clear hb
  go_wp2_with fail
  go_ret
  exact ⟨rfl, HB2.out⟩
end Ve
end Go.Proofs.YtnkgjddkdikikaaGreatDoor
namespace Go.Proofs.YtnkgjddkdikikaaGreatDoor
open Go.RowKit
namespace Ve
theorem pkOf_same {Q Q' : List Raw} (h : Q.map (fun r => r.1) = Q'.map (fun r => r.1)) (L : List Ent) (m : Bm) : pkOf Q L m = pkOf Q' L m := by
  unfold pkOf entOf; rw [isM_same h]
theorem slF_same {Q Q' : List Raw} (h : Q.map (fun r => r.1) = Q'.map (fun r => r.1)) (R : List Bm) : slF Q R = slF Q' R := by
  unfold slF; rw [nonE_same h]
theorem bstN_same {Q Q' : List Raw} (h : Q.map (fun r => r.1) = Q'.map (fun r => r.1)) (L : List Ent) (p : ByteArray) (R : List Bm) (k : Nat) : bstN Q L p R k = bstN Q' L p R k := by
  have : bstS Q L p = bstS Q' L p := by
    funext b m
    unfold bstS; rw [pkOf_same h]
  unfold bstN; rw [this]
theorem ofF_same {Q Q' : List Raw} (h : Q.map (fun r => r.1) = Q'.map (fun r => r.1)) (L : List Ent) (R : List Bm) (p : ByteArray) : ofF Q L R p = ofF Q' L R p := by
  unfold ofF; rw [chk_same h, slF_same h, bstN_same h]
theorem ofM_same {Q Q' : List Raw} (h : Q.map (fun r => r.1) = Q'.map (fun r => r.1)) (L : List Ent) (R : List Bm) (p : ByteArray) : ofM Q L R p = ofM Q' L R p := by
  unfold ofM; rw [ofF_same h, bstN_same h]
theorem alF_same {Q Q' : List Raw} (h : Q.map (fun r => r.1) = Q'.map (fun r => r.1)) (L : List Ent) (R : List Bm) : alF Q L R = alF Q' L R := by
  unfold alF; rw [chk_same h, slF_same h]
theorem alN_same {Q Q' : List Raw} (h : Q.map (fun r => r.1) = Q'.map (fun r => r.1)) (L : List Ent) (R : List Bm) : alN Q L R = alN Q' L R := by
  unfold alN
  rw [show pkOf Q L = pkOf Q' L from funext fun m => pkOf_same h L m]
theorem alX_same {Q Q' : List Raw} (h : Q.map (fun r => r.1) = Q'.map (fun r => r.1)) (L : List Ent) (R : List Bm) : alX Q L R = alX Q' L R := by
  unfold alX; rw [alF_same h, alN_same h]
theorem phX_same {Q Q' : List Raw} (h : Q.map (fun r => r.1) = Q'.map (fun r => r.1)) : phX Q = phX Q' := by
  have e : ∀ Q : List Raw, pathL Q = (Q.map fun r => r.1).map fun b => b.1 := fun Q => by unfold pathL; rw [List.map_map]; rfl
  unfold phX
  rw [e, e, h]
theorem whX_same {Q Q' : List Raw} (h : Q.map keyR = Q'.map keyR) (L : List Ent) (p : ByteArray) : whX Q L p = whX Q' L p := by
  have hm := key_mod h
  have hl : latV Q = latV Q' := funext fun t => latV_same h t
  have hw : whH Q L p = whH Q' L p := funext fun t => by
    unfold whH; rw [hl, pkOf_same hm]
  have hn : ∀ X n, whN Q L p X n = whN Q' L p X n := fun X n => by
    unfold whN; rw [hw, hl]
  have hd : ∀ X n, whD Q L p X n = whD Q' L p X n := fun X n => by
    induction n with
    | zero => rfl
    | succ n ih => unfold whD; rw [hn, ih]
  unfold whX
  rw [chk_same hm, phX_same hm, hd]
theorem pathErr_le (l : List UInt8) : pathErr l ≤ 10 := by rcases pathErr_err l with h | h | h | h <;> omega
theorem slF_le (Q : List Raw) (R : List Bm) : (slF Q R).1 ≤ 10 := by
  rcases nonE_five (Q := Q) (R := R) with h | h
  · show codeE _ _ ≤ 10; omega
  · show codeE _ _ ≤ 10; omega
theorem ofF_le {Q : List Raw} {L : List Ent} (hc : (chk Q L).1 ≤ 10) (R : List Bm) (p : ByteArray) : (ofF Q L R p).1 ≤ 10 := by
  unfold ofF
  split
  · exact hc
  · split
    · exact pathErr_le _
    · split
      · exact slF_le Q R
      · split <;> decide
theorem alF_le {Q : List Raw} {L : List Ent} (hc : (chk Q L).1 ≤ 10) (R : List Bm) : (alF Q L R).1 ≤ 10 := by
  unfold alF
  split
  · exact hc
  · exact slF_le Q R
end Ve
end Go.Proofs.YtnkgjddkdikikaaGreatDoor
namespace Go.Proofs.YtnkgjddkdikikaaGreatDoor
open Go.RowKit Go.Maps
namespace Ve
theorem put22_below {W w : World} {B a b : Nat} {x y z u : Value} (h : Below B w W) (ha : B ≤ a) (hb : B ≤ b) : Below B w ((((W.setCell ⟨a, 0, none⟩ x).setCell ⟨a, 1, none⟩ y).setCell ⟨b, 0, none⟩ z).setCell ⟨b, 1, none⟩ u) :=
  put2_below (put2_below h ha) hb
set_option maxRecDepth 100000 in
set_option maxHeartbeats 2000000 in
theorem rof_chk (Q : List Raw) (L : List Ent) (p : ByteArray) (v rv : Value) (ra : Option Addr) (rn rc : Nat) (hrv : rv = .slice ra rn rc) (w : World) (hn : L.length ≤ 1000) (sh : ∀ e, e ∈ L → ShE e) (I : Ixs w v Q L) (hc : (chk Q L).1 ≠ 0) :
    Calls Tryz.prog 46 #[v, rv, .string p] w fun e w' => e = .returned (.tuple #[.agg #[.string ⟨#[]⟩, .string ⟨#[]⟩], faultV (chk Q L)]) ∧ Below w.heap.size w w' := by
  subst hrv
  have HBm := hid ((Below.refl w.heap.size w).alloc (Nat.le_refl _) (.cells #[.string ⟨#[]⟩, .string ⟨#[]⟩] 35))
  have HB0 := hid (HBm.out.alloc HBm.out.size (.cells #[.int .i64 0, .int .i64 0] 62))
  have HM0 := hid (heap_old _ (.cells #[.int .i64 0, .int .i64 0] 62) (heap_new w (.cells #[.string ⟨#[]⟩, .string ⟨#[]⟩] 35)))
  have HE0 := hid (heap_new (w.alloc (.cells #[.string ⟨#[]⟩, .string ⟨#[]⟩] 35)) (.cells #[.int .i64 0, .int .i64 0] 62))
  have HIF := hid (fun W (h : Below w.heap.size w W) => iFault_any Q L v W hn sh (I.below h))
  obtain ⟨va, vc, hv1, -⟩ := id I.es
  subst hv1
  obtain ⟨cc, oo, hco⟩ : ∃ cc oo, chk Q L = (cc, oo) := ⟨_, _, rfl⟩
  rw [hco] at HIF hc ⊢
  unfold faultV at HIF ⊢
  simp only at HIF hc ⊢
  generalize atOf oo = ao at *
  have hpos : (0 : Int) < (cc : Int) := by omega
  clear I sh hco hc
  go_enter Tryz.func46, Tryz.ntmps46
  go_wp2_with fail
  refine (HIF.out _ HB0.out).mono ?_
  rintro e w1 ⟨rfl, hb⟩
  have HBa := hid (HB0.out.trans (hb.mono HB0.out.size))
  have HMa := hid ((hb.block _ (lt_of_blk HM0.out)).trans HM0.out)
  have HEa := hid ((hb.block _ (lt_of_blk HE0.out)).trans HE0.out)
  clear hb
  have HB2 := hid (HBa.out.alloc HBa.out.size (.cells #[.int .i64 (cc : Int), .int .i64 ao] 62))
  have HM2 := hid (heap_old w1 (.cells #[.int .i64 (cc : Int), .int .i64 ao] 62) HMa.out)
  have HE2 := hid (heap_old w1 (.cells #[.int .i64 (cc : Int), .int .i64 ao] 62) HEa.out)
  have HF2 := hid (heap_new w1 (.cells #[.int .i64 (cc : Int), .int .i64 ao] 62))
  have hz0 : (w.alloc (.cells #[.string ⟨#[]⟩, .string ⟨#[]⟩] 35)).heap.size = w.heap.size + 1 := by simp
  rw [hz0] at HE2
  have hlt := lt_of_blk HMa.out
  have hlt2 := lt_of_blk HEa.out
  rw [hz0] at hlt2
  have n1 : ¬ w1.heap.size = w.heap.size := by omega
  have n2 : ¬ w1.heap.size = w.heap.size + 1 := by omega
  have n3 : ¬ w.heap.size = w1.heap.size := by omega
  have n4 : ¬ w.heap.size + 1 = w1.heap.size := by omega
  obtain ⟨f0, f1, _⟩ := bx2 HF2.out
  go_wp2_with fail
  generalize w1.alloc (.cells #[.int .i64 (cc : Int), .int .i64 ao] 62) = w3 at *
  obtain ⟨m0, m1, mf⟩ := bx2 HM2.out
  obtain ⟨s0, s1, sf⟩ := bx2 HE2.out
  go_region_with fail
  all_goals
    go_wp2_with fail
    refine bodyPost_ret (v := .tuple #[.agg #[.string ⟨#[]⟩, .string ⟨#[]⟩], .agg #[.int .i64 (cc : Int), .int .i64 ao]]) (by simp [results, Tryz.results46, go_sem, m0, m1, s0, s1]) rfl ⟨rfl, ?_⟩
    exact below_drawn_of (put22_below HB2.out (Nat.le_refl _) (Nat.le_succ _)) 1
theorem Pf.start {w W : World} {c a : Int} (hb : Below (w.heap.size + 2) ((w.alloc (.cells #[.string ⟨#[]⟩, .string ⟨#[]⟩] 35)).alloc (.cells #[.int .i64 0, .int .i64 0] 62)) W) : Pf w (W.alloc (.cells #[.int .i64 c, .int .i64 a] 62)) W.heap.size c a := by
  have z1 : (w.alloc (.cells #[.string ⟨#[]⟩, .string ⟨#[]⟩] 35)).heap.size = w.heap.size + 1 := by simp
  have b0 := ((Below.refl w.heap.size w).alloc (Nat.le_refl _) (.cells #[.string ⟨#[]⟩, .string ⟨#[]⟩] 35))
  have b1 := b0.alloc b0.size (.cells #[.int .i64 0, .int .i64 0] 62)
  have hs : w.heap.size + 2 ≤ W.heap.size := by have := hb.size; simpa using this
  have b2 := b1.trans (hb.mono (Nat.le_add_right _ 2))
  have m0 := (hb.block w.heap.size (by omega)).trans (heap_old _ (.cells #[.int .i64 0, .int .i64 0] 62) (heap_new w (.cells #[.string ⟨#[]⟩, .string ⟨#[]⟩] 35)))
  have e0 := heap_new (w.alloc (.cells #[.string ⟨#[]⟩, .string ⟨#[]⟩] 35)) (.cells #[.int .i64 0, .int .i64 0] 62)
  rw [z1] at e0
  have e1 := (hb.block (w.heap.size + 1) (by omega)).trans e0
  exact ⟨b2.alloc b2.size _, heap_old _ _ m0, heap_old _ _ e1, heap_new _ _, hs⟩
theorem Pf.set {w W : World} {fb : Nat} {c a x y : Int} (h : Pf w W fb c a) : Pf w ((W.setCell ⟨fb, 0, none⟩ (.int .i64 x)).setCell ⟨fb, 1, none⟩ (.int .i64 y)) fb x y := by
  have g := h.ge
  refine ⟨put2_below h.bl (by omega), ?_, ?_, ?_, h.ge⟩
  · exact keep_set (keep_set h.m (by omega)) (by omega)
  · exact keep_set (keep_set h.e (by omega)) (by omega)
  · rw [set_block (set_block h.f)]; rfl
set_option maxRecDepth 100000 in
set_option maxHeartbeats 2000000 in
theorem rof_path (Q : List Raw) (L : List Ent) (p : ByteArray) (v rv : Value) (ra : Option Addr) (rn rc : Nat) (hrv : rv = .slice ra rn rc) (w : World) (hn : L.length ≤ 1000) (sh : ∀ e, e ∈ L → ShE e) (I : Ixs w v Q L) (hp : p.size < 4294967281) (hc : chk Q L = (0, none)) (he : pathErr p.data.toList = 1 ∨ pathErr p.data.toList = 2) :
    Calls Tryz.prog 46 #[v, rv, .string p] w fun e w' => e = .returned (.tuple #[.agg #[.string ⟨#[]⟩, .string ⟨#[]⟩], faultV (pathErr p.data.toList, none)]) ∧ Below w.heap.size w w' := by
  subst hrv
  have HBm := hid ((Below.refl w.heap.size w).alloc (Nat.le_refl _) (.cells #[.string ⟨#[]⟩, .string ⟨#[]⟩] 35))
  have HB0 := hid (HBm.out.alloc HBm.out.size (.cells #[.int .i64 0, .int .i64 0] 62))
  have HIF := hid (fun W (h : Below w.heap.size w W) => iFault_any Q L v W hn sh (I.below h))
  have HPE := hid (fun W => pathError_any p W hp)
  have HBA := hid (fun (n : Int) W => rbare_any n W)
  obtain ⟨va, vc, hv1, -⟩ := id I.es
  subst hv1
  rw [hc] at HIF
  unfold faultV at HIF ⊢
  simp only at HIF ⊢
  have ha : atOf none = -1 := rfl
  rw [ha] at HIF ⊢
  clear I sh hc
  have hp0 : (0 : Int) < ((pathErr p.data.toList : Nat) : Int) := by omega
  have hp4 : (((pathErr p.data.toList : Nat) : Int) == 4) = false := by rw [beq_eq_false_iff_ne]; omega
  generalize ((pathErr p.data.toList : Nat) : Int) = k at *
  clear he
  go_enter Tryz.func46, Tryz.ntmps46
  go_wp2_with fail
  refine (HIF.out _ HB0.out).mono ?_
  rintro e w1 ⟨rfl, hb⟩
  have HP1 := hid (Pf.start (c := 0) (a := -1) (by simpa using hb))
  clear hb
  obtain ⟨-, -, f0, f1, ff⟩ := HP1.out.cells
  go_wp2_with fail
  generalize w1.alloc (.cells #[.int .i64 0, .int .i64 (-1)] 62) = w2 at *
  refine (HPE.out _).mono ?_
  rintro e w3 ⟨rfl, hb⟩
  have HP3 := hid (HP1.out.below hb)
  clear hb f0 f1 ff HP1
  obtain ⟨⟨m0, m1, mf⟩, ⟨s0, s1, sf⟩, f0, f1, ff⟩ := HP3.out.cells
  go_wp2_with fail
  refine (HBA.out _ _).mono ?_
  rintro e w4 ⟨rfl, hb⟩
  have HP4 := hid (HP3.out.below hb)
  clear hb f0 f1 ff HP3 m0 m1 mf s0 s1 sf
  obtain ⟨⟨m0, m1, mf⟩, ⟨s0, s1, sf⟩, f0, f1, ff⟩ := HP4.out.cells
  go_wp2_with fail
  refine bodyPost_ret (v := .tuple #[.agg #[.string ⟨#[]⟩, .string ⟨#[]⟩], .agg #[.int .i64 k, .int .i64 (-1)]]) (by simp [results, Tryz.results46, go_sem, m0, m1, s0, s1]) rfl ⟨rfl, ?_⟩
  exact put22_below HP4.out.bl (Nat.le_refl _) (Nat.le_succ _)
set_option maxRecDepth 100000 in
set_option maxHeartbeats 4000000 in
theorem rof_sel (Q : List Raw) (L : List Ent) (R : List Bm) (p : ByteArray) (v rv : Value) (w : World) (hn : L.length ≤ 1000) (sh : ∀ e, e ∈ L → ShE e) (I : Ixs w v Q L) (hR : R.length ≤ 1000000) (hr : MsAt w rv R) (hp : p.size < 4294967281) (hc : chk Q L = (0, none)) (he : pathErr p.data.toList = 0 ∨ pathErr p.data.toList = 4) (hs : (slF Q R).1 ≠ 0) :
    Calls Tryz.prog 46 #[v, rv, .string p] w fun e w' => e = .returned (.tuple #[.agg #[.string ⟨#[]⟩, .string ⟨#[]⟩], faultV (slF Q R)]) ∧ Below w.heap.size w w' := by
  have HBm := hid ((Below.refl w.heap.size w).alloc (Nat.le_refl _) (.cells #[.string ⟨#[]⟩, .string ⟨#[]⟩] 35))
  have HB0 := hid (HBm.out.alloc HBm.out.size (.cells #[.int .i64 0, .int .i64 0] 62))
  have HIF := hid (fun W (h : Below w.heap.size w W) => iFault_any Q L v W hn sh (I.below h))
  have HPE := hid (fun W => pathError_any p W hp)
  have HSF := hid (fun W (h : Below w.heap.size w W) => rsel_any Q R v rv W (by rw [I.ln]; exact hn) hR (I.es.below h) (hr.below h))
  obtain ⟨va, vc, hv1, -⟩ := id I.es
  subst hv1
  obtain ⟨ra, rc, hrv, -⟩ := id hr
  subst hrv
  rw [hc] at HIF
  obtain ⟨cc, oo, hco⟩ : ∃ cc oo, slF Q R = (cc, oo) := ⟨_, _, rfl⟩
  rw [hco] at HSF hs ⊢
  unfold faultV at HIF HSF ⊢
  simp only at HIF HSF hs ⊢
  have ha : atOf none = -1 := rfl
  rw [ha] at HIF
  generalize atOf oo = ao at *
  have hpos : (0 : Int) < (cc : Int) := by omega
  clear I sh hc hco hs hr
  rcases he with he | he
  all_goals
    rw [he] at HPE
    clear he
    go_enter Tryz.func46, Tryz.ntmps46
    go_wp2_with fail
    refine (HIF.out _ HB0.out).mono ?_
    rintro e w1 ⟨rfl, hb⟩
    have HP1 := hid (Pf.start (c := 0) (a := -1) (by simpa using hb))
    clear hb
    obtain ⟨-, -, f0, f1, ff⟩ := HP1.out.cells
    go_wp2_with fail
    generalize w1.alloc (.cells #[.int .i64 0, .int .i64 (-1)] 62) = w2 at *
    refine (HPE.out _).mono ?_
    rintro e w3 ⟨rfl, hb⟩
    have HP3 := hid (HP1.out.below hb)
    clear hb f0 f1 ff HP1
    obtain ⟨-, -, f0, f1, ff⟩ := HP3.out.cells
    go_wp2_with fail
    refine (HSF.out _ HP3.out.bl).mono ?_
    rintro e w4 ⟨rfl, hb⟩
    have HP4 := hid (HP3.out.below hb)
    clear hb f0 f1 ff HP3
    obtain ⟨⟨m0, m1, mf⟩, ⟨s0, s1, sf⟩, f0, f1, ff⟩ := HP4.out.cells
    have HP5 := hid (HP4.out.set (x := cc) (y := ao))
    have hge := HP4.out.ge
    go_wp2_with fail
    generalize (w4.setCell ⟨w1.heap.size, 0, none⟩ (.int .i64 (cc : Int))).setCell ⟨w1.heap.size, 1, none⟩ (.int .i64 ao) = w5 at *
    clear f0 f1 ff m0 m1 mf s0 s1 sf HP4
    obtain ⟨⟨m0, m1, mf⟩, ⟨s0, s1, sf⟩, f0, f1, ff⟩ := HP5.out.cells
    have n1 : ¬ w1.heap.size = w.heap.size := by omega
    have n2 : ¬ w1.heap.size = w.heap.size + 1 := by omega
    have n3 : ¬ w.heap.size = w1.heap.size := by omega
    have n4 : ¬ w.heap.size + 1 = w1.heap.size := by omega
    go_wp2_with fail
    go_region_with fail
    all_goals
      go_wp2_with fail
      refine bodyPost_ret (v := .tuple #[.agg #[.string ⟨#[]⟩, .string ⟨#[]⟩], .agg #[.int .i64 (cc : Int), .int .i64 ao]]) (by simp [results, Tryz.results46, go_sem, m0, m1, s0, s1]) rfl ⟨rfl, ?_⟩
      exact below_drawn_of (put22_below HP5.out.bl (Nat.le_refl _) (Nat.le_succ _)) 1
end Ve
end Go.Proofs.YtnkgjddkdikikaaGreatDoor
