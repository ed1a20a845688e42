
import Derived.Test.YtjndahjfodnllaaGreatDoorPt3
import Derived.Test.YtjndahjfodnllaaGreatDoorPt4
import Derived.Test.YtjndahjfodnllaaGreatDoorPt1
import Derived.Deep.AppendLies
import Derived.Deep.RegionHeldLaw
import Derived.Test.YtjndahjfodnllaaGreatDoorPt2
import Derived.Test.YtjndahjfodnllaaGreatDoorFileQ
import Derived.Maps.OwnSet
import Derived.DeepKeys4
import Derived.MapViews
import Derived.Deep.DeepCutAuto
import Derived.Test.YtjndahjfodnllaaGreatDoorProg
namespace Go.Proofs.YtjndahjfodnllaaGreatDoor
open Go.RowKit
namespace Ve
structure Sv (w0 W : World) (b0 o0 : Nat) (L X : List ByteArray) (v : Value) : Prop where
  own : W.ownsRow w0.heap.size 9 1 v X.length (X.map Value.string)
  nl : X = [] → v = .slice none 0 0
  bl : Below w0.heap.size w0 W
  ls : ∀ j (h : j < L.length), W.cell? ⟨b0, o0 + j, none⟩ = some (.string L[j])
theorem Sv.below {w0 W W' : World} {b0 o0 : Nat} {L X : List ByteArray} {v : Value} (h : Sv w0 W b0 o0 L X v) (hb : Below W.heap.size W W') : Sv w0 W' b0 o0 L X v :=
  ⟨owns_below h.own hb, h.nl, h.bl.trans (hb.mono h.bl.size), fun j hj => cell_below hb (h.ls j hj)⟩
theorem grown_below {W W' : World} (h : W.grownBy W' none) : Below W.heap.size W W' := ⟨h.os, h.tape, h.output, h.size, fun k hk => h.block k hk (by simp)⟩
theorem owned_cap {w : World} {base : Nat} {e : TypeId} {g n cap : Nat} {xs : List Value} (h : w.ownsRow base e 1 (.slice (some ⟨g, 0, none⟩) n cap) n xs) : n ≤ cap ∧ cap ≤ maxLen := by
  rcases h.2 with ⟨h, _⟩ | ⟨g', cap', cur, h1, _, _, h4, h5, _⟩
  · cases h
  · injection h1 with _ _ h1
    subst h1
    exact ⟨h4, h5⟩
theorem owned_at {w : World} {base : Nat} {e : TypeId} {g cap : Nat} {X : List ByteArray} (h : w.ownsRow base e 1 (.slice (some ⟨g, 0, none⟩) X.length cap) X.length (X.map Value.string)) : ∀ j (hj : j < X.length), w.cell? ⟨g, j, none⟩ = some (.string X[j]) := by
  intro j hj
  obtain ⟨g', cap', e1, _, _, h2⟩ := owned_cells h (by intro e; subst e; cases hj)
  injection e1 with e1 _ _
  injection e1 with e1
  injection e1 with e1 _ _
  rw [e1]; exact h2 j hj
theorem news_at {w : World} {g : Nat} {X : List ByteArray} (h : ∀ j (hj : j < X.length), w.cell? ⟨g, j, none⟩ = some (.string X[j])) (o m : Nat) : ∀ j u, (((X.drop o).take m).map Value.string)[j]? = some u → w.cell? ((⟨g, o, none⟩ : Addr).add j) = some u := by
  intro j u hj
  rw [List.getElem?_map, List.getElem?_take] at hj
  split at hj
  · rw [List.getElem?_drop] at hj
    cases e : X[o + j]? with
    | none => rw [e] at hj; simp at hj
    | some x =>
      rw [e] at hj
      obtain ⟨hl, e2⟩ := List.getElem?_eq_some_iff.1 e
      have := h (o + j) hl
      rw [e2] at this
      simp at hj
      rw [← hj]
      rw [Addr.add_lit]; exact this
  · simp at hj
set_option maxRecDepth 100000 in
set_option maxHeartbeats 8000000 in
theorem sortVers_some (b0 o0 cap : Nat) (L : List ByteArray) (w : World) (hL : ∀ j (h : j < L.length), w.cell? ⟨b0, o0 + j, none⟩ = some (.string L[j])) (h12 : L.length ≤ 1000) (hz : ∀ x, x ∈ L → x.size ≤ 80) :
    Calls Tryz.prog 142 #[.slice (some ⟨b0, o0, none⟩) L.length cap] w fun e w' => ∃ v X, e = .returned v ∧ w'.ownsRow w.heap.size 9 1 v X.length (X.map Value.string) ∧ Kept L L.length X ∧ Below w.heap.size w w' := by
  obtain ⟨i0, hi, hz0, hz1, hz2⟩ := info_parts infoStr
  have HL := hid hL
  have HZ := hid hz
  clear hL hz
  go_enter Tryz.func142, Tryz.ntmps142
  go_wp2_with fail
  go_loopw [3, 4] (fun v i wr => ∃ (k : Nat) (X : List ByteArray), k ≤ L.length ∧ X.length ≤ k ∧ i = .int .i64 k ∧ Hid (Kept L k X) ∧ Hid (Sv w wr b0 o0 L X v)) (fun _ i _ => L.length - (intOf i).toNat)
  case atStart => exact ⟨0, [], Nat.zero_le _, Nat.le_refl _, rfl, hid ⟨List.Pairwise.nil, fun t => by simp [bl]⟩, hid ⟨World.ownsRow_nil _ _ _ _, fun _ => rfl, Below.refl _ _, HL.out⟩⟩
  case round =>
    obtain ⟨k, X, hk, hXk, rfl, HK, HS⟩ := hrel
    by_cases hkL : k < L.length
    · have hcell := HS.out.ls k hkL
      have hq80 : L[k].size ≤ 80 := HZ.out _ (List.getElem_mem hkL)
      have HIV := hid (fun W => isVer_any L[k] W (by omega))
      have HKN := hid (fun h => kept_no hkL HK.out h)
      have HKO := hid (fun h => kept_old hkL HK.out h)
      have HKW := hid (fun h (j : Nat) hj h1 h2 => kept_new hkL HK.out h (j := j) hj h1 h2)
      have HLC := hid (fun (W : World) (v' : Value) (X' : List ByteArray) (h : Sv w W b0 o0 L X' v') => h.ls k hkL)
      have HX80 := hid (show ∀ x, x ∈ X → x.size < 999999 ∧ verErr x.data.toList = 0 from fun x hx => by
        have h1 := (HK.out.2 x.data.toList).1 (bl_mem hx)
        refine ⟨?_, h1.2⟩
        obtain ⟨y, hy, e⟩ := List.mem_map.1 h1.1
        have h2 := HZ.out y (List.mem_of_mem_take hy)
        have h3 := congrArg List.length e
        rw [len_eq, len_eq] at h3
        omega)
      generalize hq : L[k] = q at *
      clear hq
      have hkl : (k : Int) < (L.length : Int) := by omega
      have hk0 : (0 : Int) ≤ (k : Int) := by omega
      by_cases hv : verErr q.data.toList = 0
      · rw [decide_eq_true hv] at HIV
        have HV := hid hv
        clear hv
        go_wp2_with fail
        refine (HIV.out _).mono ?_
        rintro e w1 ⟨rfl, hb1⟩
        have HS1 := hid (HS.out.below hb1)
        clear hb1 hcell
        go_wp2_with fail
        go_loopw [6] (fun a wr2 => ∃ j : Nat, j ≤ X.length ∧ a = .int .i64 j ∧ Hid (∀ t (ht : t < X.length), t < j → ordV X[t].data.toList q.data.toList < 0) ∧ Hid (Sv w wr2 b0 o0 L X u3)) (fun a _ => X.length - (intOf a).toNat)
        case atStart => exact ⟨0, Nat.zero_le _, rfl, hid (fun t _ h => absurd h (Nat.not_lt_zero t)), HS1⟩
        case round =>
          obtain ⟨j, hj, rfl, HLT, HS2⟩ := hrel
          by_cases hX : X = []
          · subst hX
            obtain rfl := HS2.out.nl rfl
            obtain rfl : j = 0 := by simpa using hj
            go_wp2_with fail
            go_region
            have HSX := hid (HS2.out.below (below_drawn _ 1))
            have hc := HLC.out _ _ _ HS2.out
            have hwz := HS2.out.bl.size
            go_wp2_with (first
              | (at_builtin; refine wpList_append_own_none rfl _ _ 33 rfl 0 9 i0 1 Tryz.underlying33 hi _ _ _ rfl (World.ownsRow_nil _ _ _ _) rfl ?_)
              | (at_builtin; refine wpList_append_own _ rfl _ _ 33 rfl w.heap.size 9 i0 (.string ByteArray.empty) 1 16 Tryz.underlying33 hi hz0 hz1 hz2 rfl (by decide) _ _ _ rfl (World.ownsRow_nil _ _ _ _) ⟨wr.heap.size, 0, none⟩ 1 1 [.string q] rfl rfl ?c1 ?c2 ?c3 ?c4 ?c5 ?_))
            case c1 =>
              intro t u ht
              match t, ht with
              | 0, ht => simp at ht; subst ht; simp [Addr.add]
            case c2 => intro u hu; simp at hu; subst hu; rfl
            case c3 => unfold maxLen; omega
            case c4 => omega
            case c5 => simp; omega
            intro v1 W1 hown1 hgr1 _
            have HO1 := hid hown1
            have HB1 := hid (((Below.refl wr.heap.size wr).trans ((below_drawn wr 1).alloc (Nat.le_refl _) _)).grown hgr1 (by simp) (fun t ht => by cases ht))
            have HS3 := hid (HS2.out.below HB1.out)
            clear hown1 hgr1 hc
            go_wp2_with (at_builtin; refine wpList_append_own_none rfl _ _ 33 rfl _ 9 i0 1 Tryz.underlying33 hi _ _ _ rfl (HO1.out) rfl ?_)
            go_roundw
            case rel => exact ⟨k + 1, [q], by omega, by simp, by go_num, hid (by simpa using HKW.out HV.out 0 (Nat.zero_le _) (fun t ht => absurd ht (by simp)) (fun ht => absurd ht (by simp))), hid ⟨by simpa using HO1.out, (fun h => by cases h), HS3.out.bl, HS3.out.ls⟩⟩
            case measure => simp [intOf]; omega
          · obtain ⟨g, cp, rfl, hg, hgz, _⟩ := owned_cells HS2.out.own hX
            by_cases hjX : j < X.length
            · have HTW := hid (fun (W : World) (h : Sv w W b0 o0 L X (.slice (some ⟨g, 0, none⟩) X.length cp)) => And.intro (owned_at h.own j hjX) (And.intro (HLC.out _ _ _ h) (hid h)))
              have HXJ := hid (HX80.out X[j] (List.getElem_mem hjX))
              have HXM := hid (bl_mem (List.getElem_mem hjX))
              have hj0 : (0 : Int) ≤ (j : Int) := by omega
              have hjl : (j : Int) < (X.length : Int) := by omega
              by_cases ho : ordV X[j].data.toList q.data.toList < 0
              · have HL2 := hid (show ∀ t (ht : t < X.length), t < j + 1 → ordV X[t].data.toList q.data.toList < 0 from fun t ht hl => by
                  by_cases e : t = j
                  · subst e; exact ho
                  · exact HLT.out t ht (by omega))
                have HLT := hid True.intro
                generalize hxj : X[j] = xj at *
                clear hxj
                have HOV := hid (fun W => orderVer_any xj q W HXJ.out.1 (by omega) HXJ.out.2 HV.out)
                obtain ⟨x1, x2, _⟩ := HTW.out _ HS2.out
                generalize ordV xj.data.toList q.data.toList = od at HOV ho
                go_wp2_with fail
                go_region_held (fun W => W.cell? ⟨g, j, none⟩ = some (.string xj) ∧ W.cell? ⟨b0, o0 + k, none⟩ = some (.string q) ∧ Hid (Sv w W b0 o0 L X (.slice (some ⟨g, 0, none⟩) X.length cp))) (first | exact HTW.out _ HS3.out | exact HTW.out _ (HS2.out.below (below_drawn _ 1))) (first
                  | (go_at_call 193; refine (HOV.out _).mono ?_; rintro e w' ⟨rfl, hb⟩; have HS3 := hid ((HS2.out.below (below_drawn _ 1)).below hb); clear hb))
                all_goals
                  go_wp2_with fail
                  go_roundw
                  case rel => exact ⟨j + 1, by omega, by go_num, HL2, HS3⟩
                  case measure => simp [intOf]; omega
              · by_cases he : X[j] = q
                · have HK2 := hid (HKO.out (by rw [← he]; exact HXM.out))
                  subst he
                  generalize hxj : X[j] = xj at *
                  clear hxj
                  have HOV := hid (fun W => orderVer_any xj xj W HXJ.out.1 (by omega) HXJ.out.2 HV.out)
                  obtain ⟨x1, x2, _⟩ := HTW.out _ HS2.out
                  have hss : (xj.toList == xj.toList) = true := by simp
                  generalize ordV xj.data.toList xj.data.toList = od at HOV ho
                  go_wp2_with fail
                  go_region_held (fun W => W.cell? ⟨g, j, none⟩ = some (.string xj) ∧ W.cell? ⟨b0, o0 + k, none⟩ = some (.string xj) ∧ Hid (Sv w W b0 o0 L X (.slice (some ⟨g, 0, none⟩) X.length cp))) (first | exact HTW.out _ HS3.out | exact HTW.out _ (HS2.out.below (below_drawn _ 1))) (first
                    | (go_at_call 193; refine (HOV.out _).mono ?_; rintro e w' ⟨rfl, hb⟩; have HS3 := hid ((HS2.out.below (below_drawn _ 1)).below hb); clear hb))
                  all_goals
                    clear x1 x2
                    obtain ⟨x1, x2, _⟩ := HTW.out _ HS3.out
                    go_wp2_with fail
                    go_quiet (fail)
                    go_wp2_with fail
                    go_roundw
                    case rel => exact ⟨k + 1, X, by omega, by omega, by go_num, HK2, hid (HS3.out.below (below_drawn _ _))⟩
                    case measure => simp [intOf]; omega
                · have hss := str_ne he
                  have HKX := hid (HKW.out HV.out j hj HLT.out (fun _ => ⟨by omega, fun e => he (str_ext e)⟩))
                  clear he
                  generalize hxj : X[j] = xj at *
                  clear hxj
                  have HOV := hid (fun W => orderVer_any xj q W HXJ.out.1 (by omega) HXJ.out.2 HV.out)
                  obtain ⟨x1, x2, _⟩ := HTW.out _ HS2.out
                  generalize ordV xj.data.toList q.data.toList = od at HOV ho
                  go_wp2_with fail
                  go_region_held (fun W => W.cell? ⟨g, j, none⟩ = some (.string xj) ∧ W.cell? ⟨b0, o0 + k, none⟩ = some (.string q) ∧ Hid (Sv w W b0 o0 L X (.slice (some ⟨g, 0, none⟩) X.length cp))) (first | exact HTW.out _ HS3.out | exact HTW.out _ (HS2.out.below (below_drawn _ 1))) (first
                    | (go_at_call 193; refine (HOV.out _).mono ?_; rintro e w' ⟨rfl, hb⟩; have HS3 := hid ((HS2.out.below (below_drawn _ 1)).below hb); clear hb))
                  all_goals
                    clear x1 x2
                    obtain ⟨x1, x2, _⟩ := HTW.out _ HS3.out
                    go_wp2_with fail
                    go_quiet (fail)
                    have HSX := hid (HS3.out.below (below_drawn w' nq))
                    clear x1 x2
                    generalize w'.drewN nq = W at *
                    have hcl := owned_at HSX.out.own
                    have hc := HLC.out _ _ _ HSX.out
                    have hcap := owned_cap HSX.out.own
                    have hcp : cp ≤ 9223372036854775807 := hcap.2
                    have t1 : (0 : Int) ≤ (j : Int) := by omega
                    have t2 : (j : Int) ≤ (cp : Int) := by omega
                    have t3 : (j : Int) ≤ (X.length : Int) := by omega
                    have t4 : (X.length : Int) ≤ (cp : Int) := by omega
                    have HCL := hid hcl
                    clear hcl hcap
                    go_wp2_with (at_builtin; refine wpList_append_own _ rfl _ _ 33 rfl W.heap.size 9 i0 (.string ByteArray.empty) 1 16 Tryz.underlying33 hi hz0 hz1 hz2 rfl (by decide) _ _ _ rfl (World.ownsRow_nil _ _ _ _) ⟨g, 0, none⟩ j cp ((X.take j).map Value.string) rfl ?c0 ?c1 ?c2 ?c3 ?c4 ?c5 ?_)
                    case c0 => first | (simp; done) | (simp; omega)
                    case c1 => intro t u ht; exact news_at HCL.out 0 j t u (by simpa using ht)
                    case c2 => intro u hu; obtain ⟨x, _, rfl⟩ := List.mem_map.1 hu; rfl
                    case c3 => unfold maxLen; omega
                    case c4 => omega
                    case c5 => exact Nat.le_refl _
                    intro v1 W1 hown1 hgr1 _
                    have HO1 := hid hown1
                    have HB1 := hid (grown_below hgr1)
                    have HS4 := hid (HSX.out.below HB1.out)
                    have hc1 := HLC.out _ _ _ HS4.out
                    have hw1 := HB1.out.size
                    clear hown1 hgr1 hc
                    go_wp2_with (at_builtin; refine wpList_append_own _ rfl _ _ 33 rfl W.heap.size 9 i0 (.string ByteArray.empty) 1 16 Tryz.underlying33 hi hz0 hz1 hz2 rfl (by decide) _ _ _ rfl (HO1.out.alloc _) ⟨W1.heap.size, 0, none⟩ 1 1 [.string q] rfl rfl ?c1 ?c2 ?c3 ?c4 ?c5 ?_)
                    case c1 =>
                      intro t u ht
                      match t, ht with
                      | 0, ht => simp at ht; subst ht; simp [Addr.add]
                    case c2 => intro u hu; simp at hu; subst hu; rfl
                    case c3 => unfold maxLen; omega
                    case c4 => omega
                    case c5 => simp; omega
                    intro v2 W2 hown2 hgr2 _
                    have HO2 := hid hown2
                    have HB2 := hid (rel_app HB1.out.size HB1.out HO1.out (Below.refl _ _) hgr2)
                    have HS5 := hid (HSX.out.below HB2.out)
                    have HCL2 := hid (owned_at HS5.out.own)
                    have hw2 := HB2.out.size
                    clear hown2 hgr2 hc1
                    go_wp2_with (at_builtin; refine wpList_append_own _ rfl _ _ 33 rfl W.heap.size 9 i0 (.string ByteArray.empty) 1 16 Tryz.underlying33 hi hz0 hz1 hz2 rfl (by decide) _ _ _ rfl HO2.out ⟨g, j, none⟩ (X.length - j) (cp - j) ((X.drop j).map Value.string) rfl ?c0 ?c1 ?c2 ?c3 ?c4 ?c5 ?_)
                    case c0 => simp
                    case c1 => intro t u ht; exact news_at HCL2.out j (X.length - j) t u (by rw [List.take_of_length_le (by simp)]; exact ht)
                    case c2 => intro u hu; obtain ⟨x, _, rfl⟩ := List.mem_map.1 hu; rfl
                    case c3 => unfold maxLen; omega
                    case c4 => omega
                    case c5 => exact hw2
                    intro v3 W3 hown3 hgr3 _
                    have HB3 := hid (HB2.out.grown hgr3 hw2 (fun t ht => (HO2.out.lt t ht).1))
                    have HS6 := hid (HSX.out.below HB3.out)
                    have HO3 := hid (show W3.ownsRow w.heap.size 9 1 v3 (X.take j ++ q :: X.drop j).length ((X.take j ++ q :: X.drop j).map Value.string) by
                      have h := owns_mono hown3 (HSX.out.bl.size)
                      have e1 : (X.take j ++ q :: X.drop j).length = j + 1 + (X.length - j) := by simp; omega
                      rw [e1]
                      simpa using h)
                    clear hown3 hgr3
                    go_wp2_with fail
                    go_roundw
                    case rel => exact ⟨k + 1, X.take j ++ q :: X.drop j, by omega, by simp; omega, by go_num, HKX, hid ⟨HO3.out, (fun h => by simp at h), HS6.out.bl, HS6.out.ls⟩⟩
                    case measure => simp [intOf]; omega
            · obtain rfl : j = X.length := by omega
              have HKX := hid (HKW.out HV.out X.length hj HLT.out (fun h => absurd h hjX))
              go_wp2_with fail
              go_region
              have HSX := hid (show Sv w wr.drew b0 o0 L X (.slice (some ⟨g, 0, none⟩) X.length cp) from HS2.out.below (below_drawn wr 1))
              generalize wr.drew = W at *
              have hcap0 := owned_cap HSX.out.own
              by_cases hcx : cp = X.length
              · subst hcx
                have hcl := owned_at HSX.out.own
                have hc := HLC.out _ _ _ HSX.out
                have hcap := owned_cap HSX.out.own
                have hcp : X.length ≤ 9223372036854775807 := hcap.2
                have t1 : (0 : Int) ≤ (X.length : Int) := by omega
                have t2 : (X.length : Int) ≤ (X.length : Int) := by omega
                have t3 : (X.length : Int) ≤ (X.length : Int) := by omega
                have t4 : (X.length : Int) ≤ (X.length : Int) := by omega
                have HCL := hid hcl
                clear hcl hcap
                go_wp2_with (at_builtin; refine wpList_append_own _ rfl _ _ 33 rfl W.heap.size 9 i0 (.string ByteArray.empty) 1 16 Tryz.underlying33 hi hz0 hz1 hz2 rfl (by decide) _ _ _ rfl (World.ownsRow_nil _ _ _ _) ⟨g, 0, none⟩ (X.length) X.length ((X.take (X.length)).map Value.string) rfl ?c0 ?c1 ?c2 ?c3 ?c4 ?c5 ?_)
                case c0 => first | (simp; done) | (simp; omega)
                case c1 => intro t u ht; exact news_at HCL.out 0 (X.length) t u (by simpa using ht)
                case c2 => intro u hu; obtain ⟨x, _, rfl⟩ := List.mem_map.1 hu; rfl
                case c3 => unfold maxLen; omega
                case c4 => omega
                case c5 => exact Nat.le_refl _
                intro v1 W1 hown1 hgr1 _
                have HO1 := hid hown1
                have HB1 := hid (grown_below hgr1)
                have HS4 := hid (HSX.out.below HB1.out)
                have hc1 := HLC.out _ _ _ HS4.out
                have hw1 := HB1.out.size
                clear hown1 hgr1 hc
                go_wp2_with (at_builtin; refine wpList_append_own _ rfl _ _ 33 rfl W.heap.size 9 i0 (.string ByteArray.empty) 1 16 Tryz.underlying33 hi hz0 hz1 hz2 rfl (by decide) _ _ _ rfl (HO1.out.alloc _) ⟨W1.heap.size, 0, none⟩ 1 1 [.string q] rfl rfl ?c1 ?c2 ?c3 ?c4 ?c5 ?_)
                case c1 =>
                  intro t u ht
                  match t, ht with
                  | 0, ht => simp at ht; subst ht; simp [Addr.add]
                case c2 => intro u hu; simp at hu; subst hu; rfl
                case c3 => unfold maxLen; omega
                case c4 => omega
                case c5 => simp; omega
                intro v2 W2 hown2 hgr2 _
                have HO2 := hid hown2
                have HB2 := hid (rel_app HB1.out.size HB1.out HO1.out (Below.refl _ _) hgr2)
                have HS5 := hid (HSX.out.below HB2.out)
                have HCL2 := hid (owned_at HS5.out.own)
                have hw2 := HB2.out.size
                clear hown2 hgr2 hc1
                go_wp2_with (at_builtin; refine wpList_append_own _ rfl _ _ 33 rfl W.heap.size 9 i0 (.string ByteArray.empty) 1 16 Tryz.underlying33 hi hz0 hz1 hz2 rfl (by decide) _ _ _ rfl HO2.out _ _ _ [] rfl ?c0 ?c1 ?c2 ?c3 ?c4 ?c5 ?_)
                case c0 => simp
                case c1 => intro t u ht; simp at ht
                case c2 => intro u hu; cases hu
                case c3 => unfold maxLen; omega
                case c4 => omega
                case c5 => exact hw2
                intro v3 W3 hown3 hgr3 _
                have HB3 := hid (HB2.out.grown hgr3 hw2 (fun t ht => (HO2.out.lt t ht).1))
                have HS6 := hid (HSX.out.below HB3.out)
                have HO3 := hid (show W3.ownsRow w.heap.size 9 1 v3 (X.take (X.length) ++ q :: X.drop (X.length)).length ((X.take (X.length) ++ q :: X.drop (X.length)).map Value.string) by
                  have h := owns_mono hown3 (HSX.out.bl.size)
                  have e1 : (X.take (X.length) ++ q :: X.drop (X.length)).length = X.length + 1 := by simp
                  rw [e1]
                  simpa using h)
                clear hown3 hgr3
                go_wp2_with fail
                go_roundw
                case rel => exact ⟨k + 1, X.take (X.length) ++ q :: X.drop (X.length), by omega, by simp; omega, by go_num, HKX, hid ⟨HO3.out, (fun h => by simp at h), HS6.out.bl, HS6.out.ls⟩⟩
                case measure => simp [intOf]; omega
              · have hcx1 : X.length < cp := by omega
                have hcx2 : (X.length : Int) < (cp : Int) := by omega
                have hcl := owned_at HSX.out.own
                have hc := HLC.out _ _ _ HSX.out
                have hcap := owned_cap HSX.out.own
                have hcp : cp ≤ 9223372036854775807 := hcap.2
                have t1 : (0 : Int) ≤ (X.length : Int) := by omega
                have t2 : (X.length : Int) ≤ (cp : Int) := by omega
                have t3 : (X.length : Int) ≤ (X.length : Int) := by omega
                have t4 : (X.length : Int) ≤ (cp : Int) := by omega
                have HCL := hid hcl
                clear hcl hcap
                go_wp2_with (at_builtin; refine wpList_append_own _ rfl _ _ 33 rfl W.heap.size 9 i0 (.string ByteArray.empty) 1 16 Tryz.underlying33 hi hz0 hz1 hz2 rfl (by decide) _ _ _ rfl (World.ownsRow_nil _ _ _ _) ⟨g, 0, none⟩ (X.length) cp ((X.take (X.length)).map Value.string) rfl ?c0 ?c1 ?c2 ?c3 ?c4 ?c5 ?_)
                case c0 => first | (simp; done) | (simp; omega)
                case c1 => intro t u ht; exact news_at HCL.out 0 (X.length) t u (by simpa using ht)
                case c2 => intro u hu; obtain ⟨x, _, rfl⟩ := List.mem_map.1 hu; rfl
                case c3 => unfold maxLen; omega
                case c4 => omega
                case c5 => exact Nat.le_refl _
                intro v1 W1 hown1 hgr1 _
                have HO1 := hid hown1
                have HB1 := hid (grown_below hgr1)
                have HS4 := hid (HSX.out.below HB1.out)
                have hc1 := HLC.out _ _ _ HS4.out
                have hw1 := HB1.out.size
                clear hown1 hgr1 hc
                go_wp2_with (at_builtin; refine wpList_append_own _ rfl _ _ 33 rfl W.heap.size 9 i0 (.string ByteArray.empty) 1 16 Tryz.underlying33 hi hz0 hz1 hz2 rfl (by decide) _ _ _ rfl (HO1.out.alloc _) ⟨W1.heap.size, 0, none⟩ 1 1 [.string q] rfl rfl ?c1 ?c2 ?c3 ?c4 ?c5 ?_)
                case c1 =>
                  intro t u ht
                  match t, ht with
                  | 0, ht => simp at ht; subst ht; simp [Addr.add]
                case c2 => intro u hu; simp at hu; subst hu; rfl
                case c3 => unfold maxLen; omega
                case c4 => omega
                case c5 => simp; omega
                intro v2 W2 hown2 hgr2 _
                have HO2 := hid hown2
                have HB2 := hid (rel_app HB1.out.size HB1.out HO1.out (Below.refl _ _) hgr2)
                have HS5 := hid (HSX.out.below HB2.out)
                have HCL2 := hid (owned_at HS5.out.own)
                have hw2 := HB2.out.size
                clear hown2 hgr2 hc1
                go_wp2_with (at_builtin; refine wpList_append_own _ rfl _ _ 33 rfl W.heap.size 9 i0 (.string ByteArray.empty) 1 16 Tryz.underlying33 hi hz0 hz1 hz2 rfl (by decide) _ _ _ rfl HO2.out _ _ _ [] rfl ?c0 ?c1 ?c2 ?c3 ?c4 ?c5 ?_)
                case c0 => simp
                case c1 => intro t u ht; simp at ht
                case c2 => intro u hu; cases hu
                case c3 => unfold maxLen; omega
                case c4 => omega
                case c5 => exact hw2
                intro v3 W3 hown3 hgr3 _
                have HB3 := hid (HB2.out.grown hgr3 hw2 (fun t ht => (HO2.out.lt t ht).1))
                have HS6 := hid (HSX.out.below HB3.out)
                have HO3 := hid (show W3.ownsRow w.heap.size 9 1 v3 (X.take (X.length) ++ q :: X.drop (X.length)).length ((X.take (X.length) ++ q :: X.drop (X.length)).map Value.string) by
                  have h := owns_mono hown3 (HSX.out.bl.size)
                  have e1 : (X.take (X.length) ++ q :: X.drop (X.length)).length = X.length + 1 := by simp
                  rw [e1]
                  simpa using h)
                clear hown3 hgr3
                go_wp2_with fail
                go_roundw
                case rel => exact ⟨k + 1, X.take (X.length) ++ q :: X.drop (X.length), by omega, by simp; omega, by go_num, HKX, hid ⟨HO3.out, (fun h => by simp at h), HS6.out.bl, HS6.out.ls⟩⟩
                case measure => simp [intOf]; omega
      · rw [decide_eq_false hv] at HIV
        have HK2 := hid (HKN.out hv)
        clear hv
        go_wp2_with fail
        refine (HIV.out _).mono ?_
        rintro e w1 ⟨rfl, hb1⟩
        have HS1 := hid (HS.out.below hb1)
        clear hb1 hcell
        go_wp2_with fail
        go_roundw
        case rel => exact ⟨k + 1, X, by omega, by omega, by go_num, HK2, HS1⟩
        case measure => simp [intOf]; omega
    · have hke : k = L.length := by omega
      subst hke
      go_wp2_with fail
      go_ret
      exact ⟨_, X, rfl, HS.out.own, HK.out, HS.out.bl⟩
end Ve
end Go.Proofs.YtjndahjfodnllaaGreatDoor


namespace Go.Proofs.YtjndahjfodnllaaGreatDoor
open Go.RowKit
namespace Ve
theorem insT_nil (s : ByteArray) : insT [] s = [s] := rfl
set_option maxRecDepth 100000 in
set_option maxHeartbeats 8000000 in
theorem rwith_any (X : List ByteArray) (s : ByteArray) (u : Value) (B : Nat) (w : World) (hB : B ≤ w.heap.size) (hX : X.length ≤ 1000000) (ho : w.ownsRow B 9 1 u X.length (X.map Value.string)) (hnl : X = [] → u = .slice none 0 0) :
    Calls Tryz.prog 44 #[u, .string s] w fun e w' => ∃ u', e = .returned u' ∧ w'.ownsRow B 9 1 u' (insT X s).length ((insT X s).map Value.string) ∧ Below w.heap.size w w' := by
  obtain ⟨i0, hi, hz0, hz1, hz2⟩ := info_parts infoStr
  by_cases hX0 : X = []
  · subst hX0
    obtain rfl := hnl rfl
    clear hnl ho
    rw [insT_nil]
    go_enter Tryz.func44, Tryz.ntmps44
    go_wp2_with fail
    go_loopw [5] (fun a wr => a = .int .i64 0 ∧ wr = w) (fun _ _ => 0)
    case atStart => exact ⟨rfl, rfl⟩
    case round =>
      obtain ⟨rfl, rfl⟩ := hrel
      go_wp2_with (first
        | (at_builtin; refine wpList_append_own_none rfl _ _ 33 rfl 0 9 i0 1 Tryz.underlying33 hi _ _ _ rfl (World.ownsRow_nil _ _ _ _) rfl ?_)
        | (at_builtin; refine wpList_append_own _ rfl _ _ 33 rfl wr.heap.size 9 i0 (.string ByteArray.empty) 1 16 Tryz.underlying33 hi hz0 hz1 hz2 rfl (by decide) _ _ _ rfl (World.ownsRow_nil _ _ _ _) ⟨wr.heap.size, 0, none⟩ 1 1 [.string s] rfl rfl ?c1 ?c2 ?c3 ?c4 ?c5 ?_))
      case c1 =>
        intro t u ht
        match t, ht with
        | 0, ht => simp at ht; subst ht; simp [Addr.add]
      case c2 => intro u hu; simp at hu; subst hu; rfl
      case c3 => unfold maxLen; omega
      case c4 => omega
      case c5 => simp
      intro v1 W1 hown1 hgr1 _
      have HO1 := hid hown1
      have HB1 := hid (((Below.refl wr.heap.size wr).alloc (Nat.le_refl _) _).grown hgr1 (by simp) (fun t ht => by cases ht))
      clear hown1 hgr1
      go_wp2_with (at_builtin; refine wpList_append_own_none rfl _ _ 33 rfl _ 9 i0 1 Tryz.underlying33 hi _ _ _ rfl (HO1.out) rfl ?_)
      go_ret
      exact ⟨_, rfl, by simpa using owns_mono HO1.out hB, HB1.out⟩
  · obtain ⟨g, cp, rfl, hg, hgz, -⟩ := owned_cells ho hX0
    have HO := hid ho
    have HCL := hid (owned_at ho)
    have hcap := owned_cap ho
    have hcp : cp ≤ 9223372036854775807 := hcap.2
    have HCP := hid hcap
    have HAT := hid (fun (a : Nat) h1 h2 h3 => insT_at (s := s) (X := X) (a := a) h1 h2 h3)
    clear hnl ho hcap
    go_enter Tryz.func44, Tryz.ntmps44
    go_wp2_with fail
    go_loopw [5] (fun a wr => ∃ j : Nat, j ≤ X.length ∧ a = .int .i64 j ∧ Hid (∀ t (ht : t < X.length), t < j → lt X[t] s = true) ∧ wr = w) (fun a _ => X.length - (intOf a).toNat)
    case atStart => exact ⟨0, Nat.zero_le _, rfl, hid (fun t _ h => absurd h (Nat.not_lt_zero t)), rfl⟩
    case round =>
      obtain ⟨j, hj, rfl, HLT, rfl⟩ := hrel
      by_cases hjX : j < X.length
      · have hjI := ix_lt hjX
        have hj0 := ix_pos j
        have x1 := HCL.out j hjX
        have hls := lss_lt X[j] s
        cases hl : lt X[j] s
        · rw [hl] at hls
          have HIX := hid (HAT.out j hj HLT.out (fun _ => hl))
          by_cases he : X[j] = s
          · have HIN := hid (show insT X s = X by rw [HIX.out, if_pos (by rw [List.getElem?_eq_getElem hjX, he])])
            have hss : (X[j].toList == s.toList) = true := by rw [he]; exact beq_self_eq_true _
            clear hl he HIX HLT
            generalize X[j] = x at *
            go_wp2_with fail
            go_ret
            exact ⟨_, rfl, by rw [HIN.out]; exact HO.out, Below.refl _ _⟩
          · have HIN := hid (show insT X s = X.take j ++ s :: X.drop j by rw [HIX.out, if_neg (by rw [List.getElem?_eq_getElem hjX]; exact fun e => he (Option.some.inj e))])
            have hss := str_ne he
            have t2 : (j : Int) ≤ (cp : Int) := by have := HCP.out.1; omega
            have t3 : (j : Int) ≤ (X.length : Int) := by omega
            have t4 : (X.length : Int) ≤ (cp : Int) := by have := HCP.out.1; omega
            clear hl he HIX HLT
            generalize X[j] = x at *
            obtain ⟨XS, hXS⟩ : ∃ XS, XS = (X.take j).map Value.string := ⟨_, rfl⟩
            have HXS := hid hXS
            have HXL := hid (show XS.length = j by rw [hXS]; simp; omega)
            have HXN := hid (show ∀ t u, XS[t]? = some u → wr.cell? ((⟨g, 0, none⟩ : Addr).add t) = some u from fun t u ht => news_at HCL.out 0 j t u (by rw [hXS] at ht; simpa using ht))
            have HXO := hid (show ∀ u, u ∈ XS → u.oneCell' = true from fun u hu => by rw [hXS] at hu; obtain ⟨x, _, rfl⟩ := List.mem_map.1 hu; rfl)
            clear hXS
            go_wp2_with (at_builtin; refine wpList_append_own _ rfl _ _ 33 rfl wr.heap.size 9 i0 (.string ByteArray.empty) 1 16 Tryz.underlying33 hi hz0 hz1 hz2 rfl (by decide) _ _ _ rfl (World.ownsRow_nil _ _ _ _) ⟨g, 0, none⟩ j cp XS rfl ?c0 ?c1 ?c2 ?c3 ?c4 ?c5 ?_)
            first | (case c0 => rw [HXL.out]; simp) | (case c0 => exact HXL.out) | skip
            case c1 => first | exact HXN.out | (intro t u ht; have h := HXN.out t u ht; rw [Addr.add_lit] at h; simpa using h)
            case c2 => exact HXO.out
            case c3 => unfold maxLen; omega
            case c4 => omega
            first | (case c5 => exact Nat.le_refl _) | skip
            intro v1 W1 hown1 hgr1 _
            have HO1 := hid hown1
            have HB1 := hid (grown_below hgr1)
            have hw1 := HB1.out.size
            clear hown1 hgr1
            go_wp2_with (at_builtin; refine wpList_append_own _ rfl _ _ 33 rfl wr.heap.size 9 i0 (.string ByteArray.empty) 1 16 Tryz.underlying33 hi hz0 hz1 hz2 rfl (by decide) _ _ _ rfl (HO1.out.alloc _) ⟨W1.heap.size, 0, none⟩ 1 1 [.string s] rfl rfl ?d1 ?d2 ?d3 ?d4 ?d5 ?_)
            case d1 =>
              intro t u ht
              match t, ht with
              | 0, ht => simp at ht; subst ht; simp [Addr.add]
            case d2 => intro u hu; simp at hu; subst hu; rfl
            case d3 => unfold maxLen; omega
            case d4 => omega
            case d5 => simp; omega
            intro v2 W2 hown2 hgr2 _
            have HO2 := hid hown2
            have HB2 := hid (rel_app HB1.out.size HB1.out HO1.out (Below.refl _ _) hgr2)
            have HCL2 := hid (fun t (ht : t < X.length) => cell_below HB2.out (HCL.out t ht))
            have hw2 := HB2.out.size
            clear hown2 hgr2
            go_wp2_with (at_builtin; refine wpList_append_own _ rfl _ _ 33 rfl wr.heap.size 9 i0 (.string ByteArray.empty) 1 16 Tryz.underlying33 hi hz0 hz1 hz2 rfl (by decide) _ _ _ rfl HO2.out ⟨g, j, none⟩ (X.length - j) (cp - j) ((X.drop j).map Value.string) rfl ?e0 ?e1 ?e2 ?e3 ?e4 ?e5 ?_)
            case e0 => simp
            case e1 => intro t u ht; exact news_at HCL2.out j (X.length - j) t u (by rw [List.take_of_length_le (by simp)]; exact ht)
            case e2 => intro u hu; obtain ⟨x, _, rfl⟩ := List.mem_map.1 hu; rfl
            case e3 => unfold maxLen; omega
            case e4 => omega
            case e5 => exact hw2
            intro v3 W3 hown3 hgr3 _
            have HB3 := hid (HB2.out.grown hgr3 hw2 (fun t ht => (HO2.out.lt t ht).1))
            have HO3 := hid (show W3.ownsRow B 9 1 v3 (X.take j ++ s :: X.drop j).length ((X.take j ++ s :: X.drop j).map Value.string) by
              have h := owns_mono hown3 hB
              rw [HXS.out] at h
              have e1 : (X.take j ++ s :: X.drop j).length = j + 1 + (X.length - j) := by simp; omega
              rw [e1]
              simpa using h)
            clear hown3 hgr3
            go_wp2_with fail
            go_ret
            exact ⟨_, rfl, by rw [HIN.out]; exact HO3.out, HB3.out⟩
        · have HL2 := hid (show ∀ t (ht : t < X.length), t < j + 1 → lt X[t] s = true from fun t ht htj => by
            rcases Nat.lt_or_ge t j with h | h
            · exact HLT.out t ht h
            · have : t = j := by omega
              subst this; exact hl)
          have HJX := hid hjX
          rw [hl] at hls
          clear hl HLT
          generalize X[j] = x at *
          go_wp2_with fail
          go_roundw
          case rel => exact ⟨j + 1, HJX.out, by first | exact nr_idx j | exact nx_idx HJX.out (by omega : X.length ≤ 1000000), HL2, by first | rfl | trivial⟩
          case measure => first | exact nr_meas HJX.out | exact nx_meas HJX.out (by omega : X.length ≤ 1000000)
      · obtain rfl : j = X.length := by omega
        have HIN := hid (show insT X s = X.take X.length ++ s :: X.drop X.length by rw [HAT.out X.length (Nat.le_refl _) HLT.out (fun h => absurd h (Nat.lt_irrefl _)), if_neg (by simp)])
        have hjI := ix_nlt hjX
        clear HLT hjX
        by_cases hcx : cp = X.length
        · subst hcx
          have t1 : (0 : Int) ≤ (X.length : Int) := by omega
          have t2 : (X.length : Int) ≤ (X.length : Int) := by omega
          obtain ⟨XS, hXS⟩ : ∃ XS, XS = (X.take (X.length)).map Value.string := ⟨_, rfl⟩
          have HXS := hid hXS
          have HXL := hid (show XS.length = (X.length) by rw [hXS]; simp)
          have HXN := hid (show ∀ t u, XS[t]? = some u → wr.cell? ((⟨g, 0, none⟩ : Addr).add t) = some u from fun t u ht => news_at HCL.out 0 (X.length) t u (by rw [hXS] at ht; simpa using ht))
          have HXO := hid (show ∀ u, u ∈ XS → u.oneCell' = true from fun u hu => by rw [hXS] at hu; obtain ⟨x, _, rfl⟩ := List.mem_map.1 hu; rfl)
          clear hXS
          go_wp2_with (at_builtin; refine wpList_append_own _ rfl _ _ 33 rfl wr.heap.size 9 i0 (.string ByteArray.empty) 1 16 Tryz.underlying33 hi hz0 hz1 hz2 rfl (by decide) _ _ _ rfl (World.ownsRow_nil _ _ _ _) ⟨g, 0, none⟩ (X.length) X.length XS rfl ?c0 ?c1 ?c2 ?c3 ?c4 ?c5 ?_)
          first | (case c0 => rw [HXL.out]; simp) | (case c0 => exact HXL.out) | skip
          case c1 => first | exact HXN.out | (intro t u ht; have h := HXN.out t u ht; rw [Addr.add_lit] at h; simpa using h)
          case c2 => exact HXO.out
          case c3 => unfold maxLen; omega
          case c4 => omega
          first | (case c5 => exact Nat.le_refl _) | skip
          intro v1 W1 hown1 hgr1 _
          have HO1 := hid hown1
          have HB1 := hid (grown_below hgr1)
          have hw1 := HB1.out.size
          clear hown1 hgr1
          go_wp2_with (at_builtin; refine wpList_append_own _ rfl _ _ 33 rfl wr.heap.size 9 i0 (.string ByteArray.empty) 1 16 Tryz.underlying33 hi hz0 hz1 hz2 rfl (by decide) _ _ _ rfl (HO1.out.alloc _) ⟨W1.heap.size, 0, none⟩ 1 1 [.string s] rfl rfl ?d1 ?d2 ?d3 ?d4 ?d5 ?_)
          case d1 =>
            intro t u ht
            match t, ht with
            | 0, ht => simp at ht; subst ht; simp [Addr.add]
          case d2 => intro u hu; simp at hu; subst hu; rfl
          case d3 => unfold maxLen; omega
          case d4 => omega
          case d5 => simp; omega
          intro v2 W2 hown2 hgr2 _
          have HO2 := hid hown2
          have HB2 := hid (rel_app HB1.out.size HB1.out HO1.out (Below.refl _ _) hgr2)
          have HCL2 := hid (fun t (ht : t < X.length) => cell_below HB2.out (HCL.out t ht))
          have hw2 := HB2.out.size
          clear hown2 hgr2
          go_wp2_with (at_builtin; refine wpList_append_own _ rfl _ _ 33 rfl wr.heap.size 9 i0 (.string ByteArray.empty) 1 16 Tryz.underlying33 hi hz0 hz1 hz2 rfl (by decide) _ _ _ rfl HO2.out _ _ _ [] rfl ?e0 ?e1 ?e2 ?e3 ?e4 ?e5 ?_)
          case e0 => simp
          case e1 => intro t u ht; simp at ht
          case e2 => intro u hu; cases hu
          case e3 => unfold maxLen; omega
          case e4 => omega
          case e5 => exact hw2
          intro v3 W3 hown3 hgr3 _
          have HB3 := hid (HB2.out.grown hgr3 hw2 (fun t ht => (HO2.out.lt t ht).1))
          have HO3 := hid (show W3.ownsRow B 9 1 v3 (X.take (X.length) ++ s :: X.drop (X.length)).length ((X.take (X.length) ++ s :: X.drop (X.length)).map Value.string) by
            have h := owns_mono hown3 hB
            rw [HXS.out] at h
            have e1 : (X.take (X.length) ++ s :: X.drop (X.length)).length = X.length + 1 := by simp
            rw [e1]
            simpa using h)
          clear hown3 hgr3
          go_wp2_with fail
          go_ret
          exact ⟨_, rfl, by rw [HIN.out]; exact HO3.out, HB3.out⟩
        · have hcx1 : X.length < cp := by have := HCP.out.1; omega
          have hcx2 : (X.length : Int) < (cp : Int) := by omega
          have t1 : (0 : Int) ≤ (X.length : Int) := by omega
          have t2 : (X.length : Int) ≤ (cp : Int) := by omega
          have t3 : (X.length : Int) ≤ (X.length : Int) := by omega
          obtain ⟨XS, hXS⟩ : ∃ XS, XS = (X.take (X.length)).map Value.string := ⟨_, rfl⟩
          have HXS := hid hXS
          have HXL := hid (show XS.length = (X.length) by rw [hXS]; simp)
          have HXN := hid (show ∀ t u, XS[t]? = some u → wr.cell? ((⟨g, 0, none⟩ : Addr).add t) = some u from fun t u ht => news_at HCL.out 0 (X.length) t u (by rw [hXS] at ht; simpa using ht))
          have HXO := hid (show ∀ u, u ∈ XS → u.oneCell' = true from fun u hu => by rw [hXS] at hu; obtain ⟨x, _, rfl⟩ := List.mem_map.1 hu; rfl)
          clear hXS
          go_wp2_with (at_builtin; refine wpList_append_own _ rfl _ _ 33 rfl wr.heap.size 9 i0 (.string ByteArray.empty) 1 16 Tryz.underlying33 hi hz0 hz1 hz2 rfl (by decide) _ _ _ rfl (World.ownsRow_nil _ _ _ _) ⟨g, 0, none⟩ (X.length) cp XS rfl ?c0 ?c1 ?c2 ?c3 ?c4 ?c5 ?_)
          first | (case c0 => rw [HXL.out]; simp) | (case c0 => exact HXL.out) | skip
          case c1 => first | exact HXN.out | (intro t u ht; have h := HXN.out t u ht; rw [Addr.add_lit] at h; simpa using h)
          case c2 => exact HXO.out
          case c3 => unfold maxLen; omega
          case c4 => omega
          first | (case c5 => exact Nat.le_refl _) | skip
          intro v1 W1 hown1 hgr1 _
          have HO1 := hid hown1
          have HB1 := hid (grown_below hgr1)
          have hw1 := HB1.out.size
          clear hown1 hgr1
          go_wp2_with (at_builtin; refine wpList_append_own _ rfl _ _ 33 rfl wr.heap.size 9 i0 (.string ByteArray.empty) 1 16 Tryz.underlying33 hi hz0 hz1 hz2 rfl (by decide) _ _ _ rfl (HO1.out.alloc _) ⟨W1.heap.size, 0, none⟩ 1 1 [.string s] rfl rfl ?d1 ?d2 ?d3 ?d4 ?d5 ?_)
          case d1 =>
            intro t u ht
            match t, ht with
            | 0, ht => simp at ht; subst ht; simp [Addr.add]
          case d2 => intro u hu; simp at hu; subst hu; rfl
          case d3 => unfold maxLen; omega
          case d4 => omega
          case d5 => simp; omega
          intro v2 W2 hown2 hgr2 _
          have HO2 := hid hown2
          have HB2 := hid (rel_app HB1.out.size HB1.out HO1.out (Below.refl _ _) hgr2)
          have HCL2 := hid (fun t (ht : t < X.length) => cell_below HB2.out (HCL.out t ht))
          have hw2 := HB2.out.size
          clear hown2 hgr2
          go_wp2_with (at_builtin; refine wpList_append_own _ rfl _ _ 33 rfl wr.heap.size 9 i0 (.string ByteArray.empty) 1 16 Tryz.underlying33 hi hz0 hz1 hz2 rfl (by decide) _ _ _ rfl HO2.out _ _ _ [] rfl ?e0 ?e1 ?e2 ?e3 ?e4 ?e5 ?_)
          case e0 => simp
          case e1 => intro t u ht; simp at ht
          case e2 => intro u hu; cases hu
          case e3 => unfold maxLen; omega
          case e4 => omega
          case e5 => exact hw2
          intro v3 W3 hown3 hgr3 _
          have HB3 := hid (HB2.out.grown hgr3 hw2 (fun t ht => (HO2.out.lt t ht).1))
          have HO3 := hid (show W3.ownsRow B 9 1 v3 (X.take (X.length) ++ s :: X.drop (X.length)).length ((X.take (X.length) ++ s :: X.drop (X.length)).map Value.string) by
            have h := owns_mono hown3 hB
            rw [HXS.out] at h
            have e1 : (X.take (X.length) ++ s :: X.drop (X.length)).length = X.length + 1 := by simp
            rw [e1]
            simpa using h)
          clear hown3 hgr3
          go_wp2_with fail
          go_ret
          exact ⟨_, rfl, by rw [HIN.out]; exact HO3.out, HB3.out⟩
end Ve
end Go.Proofs.YtjndahjfodnllaaGreatDoor


namespace Go.Proofs.YtjndahjfodnllaaGreatDoor
open Go.RowKit Go.Maps
namespace Ve
theorem owns_from {w : World} {B C : Nat} {e : TypeId} {size : Nat} {v : Value} {n : Nat} {xs : List Value} (h : w.ownsRow B e size v n xs) (hb : C ≤ B) : w.ownsRow C e size v n xs := owns_mono h hb
theorem map_snoc {X : List ByteArray} {k : Nat} (hk : k < X.length) (f : ByteArray → ByteArray) : (X.take (k + 1)).map f = (X.take k).map f ++ [f X[k]] := by
  rw [List.take_succ_eq_append_getElem hk, List.map_append]; rfl
theorem packT_dot (t : ByteArray) : packT t ⟨#[46]⟩ = t := if_pos rfl
theorem packT_no {t s : ByteArray} (h : ¬ s = ⟨#[46]⟩) : packT t s = t ++ ⟨#[47]⟩ ++ s := if_neg h
set_option maxRecDepth 100000 in
set_option maxHeartbeats 4000000 in
theorem rpacks_any (r : Raw) (X : List ByteArray) (w : World) (hs : slR r) (hx : TxAt w r.2.2.1 X) (hX : X.length ≤ 1000) (ht : r.1.1.size < 999999) (hxs : ∀ x, x ∈ X → x.size < 999999) :
    Calls Tryz.prog 40 #[rawV r] w fun e w' => ∃ u, e = .returned u ∧ w'.ownsRow w.heap.size 9 1 u (X.map (packT r.1.1)).length ((X.map (packT r.1.1)).map Value.string) ∧ Below w.heap.size w w' := by
  obtain ⟨i0, hi, hz0, hz1, hz2⟩ := info_parts infoStr
  obtain ⟨⟨t, q⟩, rv, pv, bk⟩ := r
  obtain ⟨⟨ra, rn, rc, hrv⟩, -⟩ := hs
  obtain ⟨pa, pc, hpv, hpc, hcells⟩ := id hx
  simp only at hrv hpv hx ht ⊢
  subst hrv
  subst hpv
  have HB0 := hid ((Below.refl w.heap.size w).alloc (Nat.le_refl _) (.cells #[.string t, .string q, .slice ra rn rc, .slice pa X.length pc, .bool bk] 61))
  have HE0 := hid (heap_new w (.cells #[.string t, .string q, .slice ra rn rc, .slice pa X.length pc, .bool bk] 61))
  have HW0 := hid (show (w.alloc (.cells #[.string t, .string q, .slice ra rn rc, .slice pa X.length pc, .bool bk] 61)).heap.size = w.heap.size + 1 by simp)
  have HX := hid (hx.below HB0.out)
  clear hx hcells
  show Calls Tryz.prog 40 #[.agg #[.string t, .string q, .slice ra rn rc, .slice pa X.length pc, .bool bk]] w _
  generalize hw0 : w.alloc (.cells #[.string t, .string q, .slice ra rn rc, .slice pa X.length pc, .bool bk] 61) = w0 at *
  generalize hZ : X.map (packT t) = Z
  have HZ := hid hZ
  clear hZ
  go_enter Tryz.func40, Tryz.ntmps40
  go_wp2_with fail
  go_loopw [3, 4] (fun ov iv wr => ∃ k : Nat, k ≤ X.length ∧ iv = .int .i64 k ∧ Hid (wr.ownsRow w0.heap.size 9 1 ov ((X.take k).map (packT t)).length (((X.take k).map (packT t)).map Value.string)) ∧ Hid (Below w0.heap.size w0 wr)) (fun _ iv _ => X.length - (intOf iv).toNat)
  case atStart => exact ⟨0, Nat.zero_le _, rfl, hid (World.ownsRow_nil _ _ _ _), hid (Below.refl _ _)⟩
  case round =>
    obtain ⟨k, hk, rfl, HO, HB⟩ := hrel
    have HER := hid ((HB.out.block _ (lt_of_blk HE0.out)).trans HE0.out)
    have s0 : wr.cell? ⟨w.heap.size, 0, none⟩ = some (.string t) := by rw [Lib.cell_of_heap HER.out]; rfl
    have s1 : wr.cell? ⟨w.heap.size, 1, none⟩ = some (.string q) := by rw [Lib.cell_of_heap HER.out]; rfl
    have s2 : wr.cell? ⟨w.heap.size, 2, none⟩ = some (.slice ra rn rc) := by rw [Lib.cell_of_heap HER.out]; rfl
    have s3 : wr.cell? ⟨w.heap.size, 3, none⟩ = some (.slice pa X.length pc) := by rw [Lib.cell_of_heap HER.out]; rfl
    have s4 : wr.cell? ⟨w.heap.size, 4, none⟩ = some (.bool bk) := by rw [Lib.cell_of_heap HER.out]; rfl
    by_cases hlt : k < X.length
    · have hkI := ix_lt hlt
      have hk0 := ix_pos k
      have HLT := hid hlt
      obtain ⟨lb, lo, rfl, y9⟩ := tx_cellK HX.out hlt
      have HY0 := hid y9
      have y0 := cell_below HB.out y9
      have HC0 := hid (show w0.cell? ⟨w.heap.size, 0, none⟩ = some (.string t) by rw [Lib.cell_of_heap HE0.out]; rfl)
      have HC3 := hid (show w0.cell? ⟨w.heap.size, 3, none⟩ = some (.slice (some ⟨lb, lo, none⟩) X.length pc) by rw [Lib.cell_of_heap HE0.out]; rfl)
      clear y9
      have HSN := hid (map_snoc hlt (packT t))
      have HLN := hid (show ((X.take k).map (packT t)).length ≤ 1000 by rw [List.length_map, List.length_take]; omega)
      have HDT := hid (fun h : X[k] = ⟨#[46]⟩ => show packT t X[k] = t by rw [h, packT_dot])
      have HND := hid (fun h : ¬ X[k] = ⟨#[46]⟩ => packT_no (t := t) h)
      have hxk := hxs _ (List.getElem_mem hlt)
      generalize X[k] = x at *
      generalize (X.take k).map (packT t) = Y at *
      clear hlt HX
      by_cases he : x = ⟨#[46]⟩
      · have HP := hid (HDT.out he)
        have hss : (x.toList == [46]) = true := by rw [he, ByteArray.toList_eq]; rfl
        clear he
        go_wp2_with (at_builtin; refine wpList_append_own _ rfl _ _ 33 rfl w0.heap.size 9 i0 _ 1 16 Tryz.underlying33 hi hz0 hz1 hz2 rfl (by decide) _ _ _ rfl (HO.out.alloc _) ⟨wr.heap.size, 0, none⟩ 1 1 [.string t] rfl rfl ?c1 ?c2 ?c3 ?c4 ?c5 ?_)
        case c1 => exact World.news_of_block (cs := #[.string t]) (heap_new _ _)
        case c2 => intro u hu; simp at hu; rw [hu]; rfl
        case c3 => have := HLN.out; unfold maxLen; omega
        case c4 => have := HLN.out; omega
        case c5 => have := HB.out.size; simp; omega
        intro v' w3 hown hgrow _
        have HR3 := hid (rel_app HB.out.size HB.out HO.out (Below.refl _ _) hgrow)
        have HO3 := hid hown
        clear hown hgrow s0 s1 s2 s3 s4 y0
        go_wp2_with fail
        go_roundw
        case rel => exact ⟨k + 1, HLT.out, by first | exact nr_idx k | exact nx_idx HLT.out (by omega : X.length ≤ 1000000), by rw [HSN.out, List.length_append, List.map_append, HP.out]; exact HO3, HR3⟩
        case measure => first | exact nr_meas HLT.out | exact nx_meas HLT.out (by omega : X.length ≤ 1000000)
      · have HP := hid (HND.out he)
        have hss : (x.toList == [46]) = false := by
          have h := str_ne he
          rw [ByteArray.toList_eq, ByteArray.toList_eq] at h
          rw [ByteArray.toList_eq]; exact h
        clear he
        have b0 : ¬ 9223372036854775807 < t.size + 1 := by omega
        have b1 : ¬ 9223372036854775807 < t.size + 1 + x.size := by omega
        have b2 : (t ++ (⟨#[47]⟩ : ByteArray)).size = t.size + 1 := by rw [ByteArray.size_append]; rfl
        have HYW := hid (fun W' (h : Below w0.heap.size w0 W') => show (fun W' => W'.cell? ⟨w.heap.size, 0, none⟩ = some (.string t) ∧ W'.cell? ⟨w.heap.size, 3, none⟩ = some (.slice (some ⟨lb, lo, none⟩) X.length pc) ∧ W'.cell? ⟨lb, lo + k, none⟩ = some (.string x)) W' from ⟨cell_below h HC0.out, cell_below h HC3.out, cell_below h HY0.out⟩)
        have HBd := hid (below_drawn_of HB.out 1)
        have HOd := hid (owns_below HO.out (below_drawn wr 1))
        go_wp2_with fail
        go_region_held_law (fun W' => W'.cell? ⟨w.heap.size, 0, none⟩ = some (.string t) ∧ W'.cell? ⟨w.heap.size, 3, none⟩ = some (.slice (some ⟨lb, lo, none⟩) X.length pc) ∧ W'.cell? ⟨lb, lo + k, none⟩ = some (.string x)) (first | exact HYW.out _ HR9.out | exact HYW.out _ (HBd.out.alloc HBd.out.size _) | exact HYW.out _ HBd.out) (first
          | (refine step_append_lies _ (by rfl) _ _ 33 (by rfl) w0.heap.size 9 i0 _ 1 16 Tryz.underlying33 hi hz0 hz1 hz2 rfl (by decide) _ _ _ (by rfl) (HOd.out.alloc _) ⟨wr.heap.size, 0, none⟩ 1 1 [.string (t ++ ⟨#[47]⟩ ++ x)] (by rfl) rfl (World.news_of_block (heap_new _ _)) (by intro u hu; simp at hu; rw [hu]; rfl) (by decide) (Nat.le_trans (Nat.add_le_add_right HLN.out 1) (by unfold maxLen; decide)) (by have := HLN.out; omega) (Nat.le_trans HBd.out.size (by simp)) (wr.heap.size + 1) (by simp) ?_; intro g cap w4 hown hgrow hat hlt2; have HR9 := hid (rel_app HBd.out.size HBd.out HOd.out (Below.refl _ _) hgrow)))
        all_goals
          have HO3 := hid hown
          clear hown hgrow hat hlt2 s0 s1 s2 s3 s4 y0
          go_wp2_with fail
          go_roundw
          case rel => exact ⟨k + 1, HLT.out, by first | exact nr_idx k | exact nx_idx HLT.out (by omega : X.length ≤ 1000000), by rw [HSN.out, List.length_append, List.map_append, HP.out]; exact HO3, HR9⟩
          case measure => first | exact nr_meas HLT.out | exact nx_meas HLT.out (by omega : X.length ≤ 1000000)
    · have HTR := hid (show X.take k = X from List.take_of_length_le (by omega))
      rw [HTR.out, HZ.out] at HO
      have hkI := ix_nlt hlt
      clear hlt
      go_wp2_with fail
      go_ret
      exact ⟨_, rfl, owns_from HO.out HB0.out.size, HB0.out.trans (HB.out.mono HB0.out.size)⟩
end Ve
end Go.Proofs.YtjndahjfodnllaaGreatDoor


namespace Go.Proofs.YtjndahjfodnllaaGreatDoor
open Go.RowKit
namespace Ve
theorem pk_is {w : World} {v : Value} {Q : List Raw} {L : List Ent} (I : Ixs w v Q L) {m : Bm} {k : Nat} (hk : idxOf (isM m) Q = (k : Int)) : ∃ hq : k < Q.length, ∃ hl : k < L.length, Q[k].1 = m ∧ pkOf Q L m = (L[k]).2.2.1.map (packT m.1) ∧ TxAt w Q[k].2.2.1 (L[k]).2.2.1 := by
  obtain ⟨hkq, hm⟩ := idx_is hk
  have hkl : k < L.length := by rw [← I.ln]; exact hkq
  have hr := I.ok k hkq hkl
  have hm2 : Q[k].1 = m := by
    unfold isM at hm
    have := of_decide_eq_true hm
    exact Prod.ext this.1 this.2
  have he : (L[k]).1 = m := by rw [← hr.m]; exact hm2
  exact ⟨hkq, hkl, hm2, by unfold pkOf packL; rw [entOf_at hk hkl, he], hr.pk⟩
set_option maxRecDepth 100000 in
set_option maxHeartbeats 4000000 in
theorem pks_any (Q : List Raw) (L : List Ent) (m : Bm) (k : Nat) (v : Value) (w : World) (hL : L.length ≤ 1000) (sh : ∀ e, e ∈ L → ShE e) (hms : m.1.size < 999999) (I : Ixs w v Q L) (hk : idxOf (isM m) Q = (k : Int)) :
    Calls Tryz.prog 30 #[v, .agg #[.string m.1, .string m.2]] w fun e w' => ∃ u, e = .returned u ∧ w'.ownsRow w.heap.size 9 1 u (pkOf Q L m).length ((pkOf Q L m).map Value.string) ∧ Below w.heap.size w w' := by
  obtain ⟨i0, hi, hz0, hz1, hz2⟩ := info_parts infoStr
  obtain ⟨hkq, hkl, hqm, hpk, hpx⟩ := pk_is I hk
  have hsh := sh _ (List.getElem_mem hkl)
  have hX := hsh.pn
  have hxs := hsh.ps
  rw [hpk]
  have HF := hid (fun W (h : Below w.heap.size w W) => find_any Q m v W (by rw [I.ln]; omega) (I.es.below h))
  rw [hk] at HF
  obtain ⟨a, c, hv1, hcl, hsl, hce⟩ := id I.es
  subst hv1
  obtain ⟨eb, eo, rfl, hcells⟩ := hce (fun h => by rw [h] at hkq; simp at hkq)
  have HY3 := hid (hcells k hkq).2.2.2.1
  generalize (L[k]).2.2.1 = X at *
  obtain ⟨pa, pc, hpv, -, -⟩ := id hpx
  rw [hpv] at HY3 hpx
  have HX := hid hpx
  have hkI := ix_lt hkq
  have hk0 := ix_pos k
  obtain ⟨t, q⟩ := m
  simp only at hms ⊢
  have HB0 := hid ((Below.refl w.heap.size w).alloc (Nat.le_refl _) (.cells #[.string t, .string q] 38))
  have HE0 := hid (heap_new w (.cells #[.string t, .string q] 38))
  generalize hZ : X.map (packT t) = Z
  have HZ := hid hZ
  clear hZ hpx I hk hpk hqm hsh hcells hsl hce sh
  go_enter Tryz.func30, Tryz.ntmps30
  go_wp2_with fail
  refine (HF.out _ HB0.out).mono ?_
  rintro e w1 ⟨rfl, hb⟩
  have HB1 := hid (HB0.out.trans (hb.mono HB0.out.size))
  have HE1 := hid ((hb.block _ (lt_of_blk HE0.out)).trans HE0.out)
  have HX1 := hid (HX.out.below HB1.out)
  have y3 := cell_below HB1.out HY3.out
  clear hb HE0 HX
  go_wp2_with fail
  clear y3
  go_loopw [5, 16] (fun ov iv wr => ∃ k : Nat, k ≤ X.length ∧ iv = .int .i64 k ∧ Hid (wr.ownsRow w1.heap.size 9 1 ov ((X.take k).map (packT t)).length (((X.take k).map (packT t)).map Value.string)) ∧ Hid (Below w1.heap.size w1 wr)) (fun _ iv _ => X.length - (intOf iv).toNat)
  case atStart => exact ⟨0, Nat.zero_le _, rfl, hid (World.ownsRow_nil _ _ _ _), hid (Below.refl _ _)⟩
  case round =>
    obtain ⟨k, hk, rfl, HO, HB⟩ := hrel
    have HER := hid ((HB.out.block _ (lt_of_blk HE1.out)).trans HE1.out)
    have s0 : wr.cell? ⟨w.heap.size, 0, none⟩ = some (.string t) := by rw [Lib.cell_of_heap HER.out]; rfl
    by_cases hlt : k < X.length
    · have hkI := ix_lt hlt
      have hk0 := ix_pos k
      have HLT := hid hlt
      obtain ⟨lb, lo, rfl, y9⟩ := tx_cellK HX1.out hlt
      have y0 := cell_below HB.out y9
      clear y9
      have HSN := hid (map_snoc hlt (packT t))
      have HLN := hid (show ((X.take k).map (packT t)).length ≤ 1000 by rw [List.length_map, List.length_take]; omega)
      have HDT := hid (fun h : X[k] = ⟨#[46]⟩ => show packT t X[k] = t by rw [h, packT_dot])
      have HND := hid (fun h : ¬ X[k] = ⟨#[46]⟩ => packT_no (t := t) h)
      have hxk := hxs _ (List.getElem_mem hlt)
      generalize X[k] = x at *
      generalize (X.take k).map (packT t) = Y at *
      clear hlt HX1
      by_cases he : x = ⟨#[46]⟩
      · have HP := hid (HDT.out he)
        have hss : (x.toList == [46]) = true := by rw [he, ByteArray.toList_eq]; rfl
        clear he
        go_wp2_with (at_builtin; refine wpList_append_own _ rfl _ _ 33 rfl w1.heap.size 9 i0 _ 1 16 Tryz.underlying33 hi hz0 hz1 hz2 rfl (by decide) _ _ _ rfl (HO.out.alloc _) ⟨wr.heap.size, 0, none⟩ 1 1 [.string t] rfl rfl ?c1 ?c2 ?c3 ?c4 ?c5 ?_)
        case c1 => exact World.news_of_block (cs := #[.string t]) (heap_new _ _)
        case c2 => intro u hu; simp at hu; rw [hu]; rfl
        case c3 => have := HLN.out; unfold maxLen; omega
        case c4 => have := HLN.out; omega
        case c5 => have := HB.out.size; simp; omega
        intro v' w3 hown hgrow _
        have HR3 := hid (rel_app HB.out.size HB.out HO.out (Below.refl _ _) hgrow)
        have HO3 := hid hown
        clear hown hgrow s0 y0
        go_wp2_with fail
        go_roundw
        case rel => exact ⟨k + 1, HLT.out, by first | exact nr_idx k | exact nx_idx HLT.out (by omega : X.length ≤ 1000000), by rw [HSN.out, List.length_append, List.map_append, HP.out]; exact HO3, HR3⟩
        case measure => first | exact nr_meas HLT.out | exact nx_meas HLT.out (by omega : X.length ≤ 1000000)
      · have HP := hid (HND.out he)
        have hss : (x.toList == [46]) = false := by
          have h := str_ne he
          rw [ByteArray.toList_eq, ByteArray.toList_eq] at h
          rw [ByteArray.toList_eq]; exact h
        clear he
        have b0 : ¬ 9223372036854775807 < t.size + 1 := by omega
        have b1 : ¬ 9223372036854775807 < t.size + 1 + x.size := by omega
        have b2 : (t ++ (⟨#[47]⟩ : ByteArray)).size = t.size + 1 := by rw [ByteArray.size_append]; rfl
        go_wp2_with (at_builtin; refine wpList_append_own _ rfl _ _ 33 rfl w1.heap.size 9 i0 _ 1 16 Tryz.underlying33 hi hz0 hz1 hz2 rfl (by decide) _ _ _ rfl (HO.out.alloc _) ⟨wr.heap.size, 0, none⟩ 1 1 [.string (t ++ ⟨#[47]⟩ ++ x)] rfl rfl ?c1 ?c2 ?c3 ?c4 ?c5 ?_)
        case c1 => exact World.news_of_block (cs := #[.string (t ++ ⟨#[47]⟩ ++ x)]) (heap_new _ _)
        case c2 => intro u hu; simp at hu; rw [hu]; rfl
        case c3 => have := HLN.out; unfold maxLen; omega
        case c4 => have := HLN.out; omega
        case c5 => have := HB.out.size; simp; omega
        intro v' w3 hown hgrow _
        have HR3 := hid (rel_app HB.out.size HB.out HO.out (Below.refl _ _) hgrow)
        have HO3 := hid hown
        clear hown hgrow s0 y0
        go_wp2_with fail
        go_roundw
        case rel => exact ⟨k + 1, HLT.out, by first | exact nr_idx k | exact nx_idx HLT.out (by omega : X.length ≤ 1000000), by rw [HSN.out, List.length_append, List.map_append, HP.out]; exact HO3, HR3⟩
        case measure => first | exact nr_meas HLT.out | exact nx_meas HLT.out (by omega : X.length ≤ 1000000)
    · have HTR := hid (show X.take k = X from List.take_of_length_le (by omega))
      rw [HTR.out, HZ.out] at HO
      have hkI := ix_nlt hlt
      clear hlt
      go_wp2_with fail
      go_ret
      exact ⟨_, rfl, owns_from HO.out HB1.out.size, HB1.out.trans (HB.out.mono HB1.out.size)⟩
end Ve
end Go.Proofs.YtjndahjfodnllaaGreatDoor


namespace Go.Proofs.YtjndahjfodnllaaGreatDoor
open Go.RowKit Go.Maps
namespace Ve
theorem isM_same {Q Q' : List Raw} (h : Q.map (fun r => r.1) = Q'.map (fun r => r.1)) (m : Bm) : idxOf (isM m) Q = idxOf (isM m) Q' := by
  have hl : Q.length = Q'.length := by have := congrArg List.length h; simpa using this
  have hf : idxE (isM m) Q = idxE (isM m) Q' := funext fun i => by
    have hi := congrArg (fun X : List Bm => X[i]?) h
    simp only [List.getElem?_map] at hi
    unfold idxE
    cases h1 : Q[i]? with
    | none =>
      rw [h1] at hi
      cases h2 : Q'[i]? with
      | none => rfl
      | some r => rw [h2] at hi; simp at hi
    | some r =>
      rw [h1] at hi
      cases h2 : Q'[i]? with
      | none => rw [h2] at hi; simp at hi
      | some r' =>
        rw [h2] at hi
        have : r.1 = r'.1 := by simpa using hi
        show (if isM m r then 1 else 0) = if isM m r' then 1 else 0
        rw [show isM m r = isM m r' by unfold isM; rw [this]]
  unfold idxOf
  rw [hf, hl]
theorem nonE_same {Q Q' : List Raw} (h : Q.map (fun r => r.1) = Q'.map (fun r => r.1)) (R : List Bm) : nonE Q R = nonE Q' R := funext fun i => by
  unfold nonE nonW
  split
  · rfl
  · rw [isM_same h]
theorem chk_same {Q Q' : List Raw} {L : List Ent} (h : Q.map (fun r => r.1) = Q'.map (fun r => r.1)) : chk Q L = chk Q' L := by
  have hr : reqE2 Q L = reqE2 Q' L := funext fun i => by
    unfold reqE2
    split
    · rfl
    · rw [nonE_same h]
  unfold chk
  rw [hr]
end Ve
end Go.Proofs.YtjndahjfodnllaaGreatDoor


namespace Go.Proofs.YtjndahjfodnllaaGreatDoor
namespace Ve
abbrev By := List (Bm × Bm)
theorem nd_len {α : Type} [DecidableEq α] : ∀ (a b : List α), a.Nodup → (∀ x, x ∈ a → x ∈ b) → a.length ≤ b.length
  | [], _, _, _ => Nat.zero_le _
  | x :: a, b, hn, hs => by
    obtain ⟨h1, h2⟩ := List.nodup_cons.1 hn
    have hx := hs x (by simp)
    have h3 := nd_len a (b.erase x) h2 (fun y hy => (List.mem_erase_of_ne (fun e => h1 (by rw [← e]; exact hy))).2 (hs y (List.mem_cons_of_mem _ hy)))
    rw [List.length_erase_of_mem hx] at h3
    have := List.length_pos_of_mem hx
    simp
    omega
inductive Wn (req : Bm → List Bm) (roots : List Bm) : Nat → Bm → Prop
  | root {m : Bm} : m ∈ roots → Wn req roots 1 m
  | step {n : Nat} {p m : Bm} : Wn req roots n p → m ∈ req p → Wn req roots (n + 1) m
theorem Wn.pos {req : Bm → List Bm} {roots : List Bm} {n : Nat} {m : Bm} (h : Wn req roots n m) : 1 ≤ n := by
  cases h with
  | root _ => exact Nat.le_refl _
  | step _ _ => omega
inductive Wy (req : Bm → List Bm) (T : By) : Bm → Nat → List Bm → Prop
  | start {k : Nat} (h : k < T.length) : Wy req T T[k].1 k [T[k].1]
  | next {m : Bm} {k j : Nat} {Y : List Bm} : Wy req T m k Y → (hk : k < T.length) → (hj : j < k) → (T[j]'(Nat.lt_trans hj hk)).1 = T[k].2 → T[k].1 ∈ req T[k].2 → Wy req T m j ((T[j]'(Nat.lt_trans hj hk)).1 :: Y)
theorem Wy.pos {req : Bm → List Bm} {T : By} {m : Bm} {k : Nat} {Y : List Bm} (h : Wy req T m k Y) : 0 < Y.length := by
  cases h with
  | start h => simp
  | next h hk hj _ _ => simp
end Ve
end Go.Proofs.YtjndahjfodnllaaGreatDoor


namespace Go.Proofs.YtjndahjfodnllaaGreatDoor
open Go.RowKit Go.Maps
namespace Ve
end Ve
end Go.Proofs.YtjndahjfodnllaaGreatDoor


namespace Go.Proofs.YtjndahjfodnllaaGreatDoor
open Go.RowKit Go.Maps
namespace Ve
end Ve
end Go.Proofs.YtjndahjfodnllaaGreatDoor


namespace Go.Proofs.YtjndahjfodnllaaGreatDoor
open Go.RowKit Go.Maps
namespace Ve
def univ (L : List Ent) : List Bm := L.map fun e => e.1
theorem ixs_get {w : World} {v : Value} {Q : List Raw} {L : List Ent} (I : Ixs w v Q L) {j : Nat} (hj : j < Q.length) : ∃ hj' : j < L.length, Q[j].1 = L[j].1 := by
  have hj' : j < L.length := by rw [← I.ln]; exact hj
  exact ⟨hj', (I.ok j hj hj').m⟩
theorem isM_iff {m : Bm} {r : Raw} : isM m r = true ↔ r.1 = m := by
  unfold isM
  constructor
  · intro h; have h2 := of_decide_eq_true h; exact Prod.ext h2.1 h2.2
  · intro h; exact decide_eq_true (by rw [h]; exact ⟨rfl, rfl⟩)
theorem idx_nat (P : Raw → Bool) (Q : List Raw) : idxOf P Q = -1 ∨ ∃ k : Nat, idxOf P Q = (k : Int) := by
  unfold idxOf
  cases fstE (idxE P Q) Q.length with
  | none => exact Or.inl rfl
  | some k => exact Or.inr ⟨k, rfl⟩
theorem idx_none {P : Raw → Bool} {Q : List Raw} (h : idxOf P Q = -1) : ∀ r, r ∈ Q → P r = false := fun r hr => by
  obtain ⟨j, hj, rfl⟩ := List.getElem_of_mem hr
  unfold idxOf at h
  cases h1 : fstE (idxE P Q) Q.length with
  | some k => rw [h1] at h; simp only at h; omega
  | none =>
    have := fstE_of_none h1 j hj
    rw [idxE_at hj] at this
    cases hp : P Q[j] with
    | false => rfl
    | true => rw [hp] at this; simp at this
theorem found_iff {w : World} {v : Value} {Q : List Raw} {L : List Ent} (I : Ixs w v Q L) (m : Bm) : m ∈ univ L ↔ ∃ k : Nat, idxOf (isM m) Q = (k : Int) := by
  constructor
  · intro h
    rcases idx_nat (isM m) Q with h1 | h1
    · obtain ⟨e, he, rfl⟩ := List.mem_map.1 h
      obtain ⟨j, hj, rfl⟩ := List.getElem_of_mem he
      have hj2 : j < Q.length := by rw [I.ln]; exact hj
      have := idx_none h1 Q[j] (List.getElem_mem hj2)
      rw [isM_iff.2 (I.ok j hj2 hj).m] at this
      cases this
    · exact h1
  · rintro ⟨k, h⟩
    obtain ⟨hk, h1⟩ := idx_is h
    obtain ⟨hk', h2⟩ := ixs_get I hk
    exact List.mem_map.2 ⟨L[k], List.getElem_mem hk', by rw [← h2]; exact isM_iff.1 h1⟩
end Ve
end Go.Proofs.YtjndahjfodnllaaGreatDoor


namespace Go.Proofs.YtjndahjfodnllaaGreatDoor
open Go.RowKit Go.Maps
namespace Ve
theorem codeE_all {E : Nat → Nat} {n : Nat} (h : codeE E n = 0) : ∀ j, j < n → E j = 0 := by
  cases h1 : fstE E n with
  | none => exact fstE_of_none h1
  | some i =>
    rw [codeE_some h1] at h
    exact absurd h (fstE_of_some h1).2.1
theorem nonE_found {w : World} {v : Value} {Q : List Raw} {L : List Ent} (I : Ixs w v Q L) {R : List Bm} (h : codeE (nonE Q R) R.length = 0) : ∀ m, m ∈ R → m ∈ univ L := fun m hm => by
  obtain ⟨j, hj, rfl⟩ := List.getElem_of_mem hm
  have h1 := codeE_all h j hj
  rw [nonE_at hj] at h1
  unfold nonW at h1
  refine (found_iff I _).2 ?_
  rcases idx_nat (isM R[j]) Q with h2 | h2
  · rw [h2] at h1; simp at h1
  · exact h2
end Ve
end Go.Proofs.YtjndahjfodnllaaGreatDoor


namespace Go.Proofs.YtjndahjfodnllaaGreatDoor
open Go.RowKit Go.Maps
namespace Ve
theorem rel_app2 {B : Nat} {w wr w2 w3 : World} {e : TypeId} {v : Value} {n : Nat} {xs : List Value} {o : Obj} (hB : B ≤ wr.heap.size) (hb : Below B w wr) (hown : wr.ownsRow B e 2 v n xs) (hb2 : Below wr.heap.size wr w2)
    (hg : (w2.alloc o).grownBy w3 v.ownBlock) : Below B w w3 := by
  have h2 : Below B w w2 := hb.trans (hb2.mono hB)
  have h3 : Below B w (w2.alloc o) := h2.alloc (Nat.le_trans hB hb2.size) o
  exact h3.grown hg (by simp; exact Nat.le_succ_of_le (Nat.le_trans hB hb2.size)) (fun k hk => (hown.lt k hk).1)
end Ve
end Go.Proofs.YtjndahjfodnllaaGreatDoor





namespace Go.Proofs.YtjndahjfodnllaaGreatDoor
open Go.RowKit Go.Maps Go.Sort Go.Lib
namespace Ve
end Ve
end Go.Proofs.YtjndahjfodnllaaGreatDoor


namespace Go.Proofs.YtjndahjfodnllaaGreatDoor
open Go.RowKit Go.Maps
namespace Ve
end Ve
end Go.Proofs.YtjndahjfodnllaaGreatDoor


namespace Go.Proofs.YtjndahjfodnllaaGreatDoor
open Go.RowKit Go.Maps
namespace Ve
end Ve
end Go.Proofs.YtjndahjfodnllaaGreatDoor
