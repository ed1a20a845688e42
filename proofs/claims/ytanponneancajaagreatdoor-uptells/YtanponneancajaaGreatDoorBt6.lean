
import Derived.Test.YtanponneancajaaGreatDoorBt4
import Derived.Test.YtanponneancajaaGreatDoorBt5
import Derived.Test.YtanponneancajaaGreatDoorBt2
import Derived.Test.YtanponneancajaaGreatDoorBt1
import Derived.Test.YtanponneancajaaGreatDoorBt3
import Derived.Test.YtanponneancajaaGreatDoorFileQ
import Derived.Maps.OwnSet
import Derived.DeepKeys4
import Derived.MapViews
import Derived.Deep.DeepCutAuto
namespace Go.Proofs.YtanponneancajaaGreatDoor
open Go.RowKit
namespace Ve
structure Sv (w0 W : World) (b0 o0 : Nat) (L X : List ByteArray) (v : Value) : Prop where
  own : W.ownsRow w0.heap.size 9 1 v X.length (X.map Value.string)
  nl : X = [] → v = .slice none 0 0
  bl : Below w0.heap.size w0 W
  ls : ∀ j (h : j < L.length), W.cell? ⟨b0, o0 + j, none⟩ = some (.string L[j])
theorem Sv.below {w0 W W' : World} {b0 o0 : Nat} {L X : List ByteArray} {v : Value} (h : Sv w0 W b0 o0 L X v) (hb : Below W.heap.size W W') : Sv w0 W' b0 o0 L X v :=
  ⟨owns_below h.own hb, h.nl, h.bl.trans (hb.mono h.bl.size), fun j hj => cell_below hb (h.ls j hj)⟩
theorem grown_below {W W' : World} (h : W.grownBy W' none) : Below W.heap.size W W' := ⟨h.os, h.tape, h.output, h.size, fun k hk => h.block k hk (by simp)⟩
theorem owned_cap {w : World} {base : Nat} {e : TypeId} {g n cap : Nat} {xs : List Value} (h : w.ownsRow base e 1 (.slice (some ⟨g, 0, none⟩) n cap) n xs) : n ≤ cap ∧ cap ≤ maxLen := by
  rcases h.2 with ⟨h, _⟩ | ⟨g', cap', cur, h1, _, _, h4, h5, _⟩
  · cases h
  · injection h1 with _ _ h1
    subst h1
    exact ⟨h4, h5⟩
theorem owned_at {w : World} {base : Nat} {e : TypeId} {g cap : Nat} {X : List ByteArray} (h : w.ownsRow base e 1 (.slice (some ⟨g, 0, none⟩) X.length cap) X.length (X.map Value.string)) : ∀ j (hj : j < X.length), w.cell? ⟨g, j, none⟩ = some (.string X[j]) := by
  intro j hj
  obtain ⟨g', cap', e1, _, _, h2⟩ := owned_cells h (by intro e; subst e; cases hj)
  injection e1 with e1 _ _
  injection e1 with e1
  injection e1 with e1 _ _
  rw [e1]; exact h2 j hj
theorem news_at {w : World} {g : Nat} {X : List ByteArray} (h : ∀ j (hj : j < X.length), w.cell? ⟨g, j, none⟩ = some (.string X[j])) (o m : Nat) : ∀ j u, (((X.drop o).take m).map Value.string)[j]? = some u → w.cell? ((⟨g, o, none⟩ : Addr).add j) = some u := by
  intro j u hj
  rw [List.getElem?_map, List.getElem?_take] at hj
  split at hj
  · rw [List.getElem?_drop] at hj
    cases e : X[o + j]? with
    | none => rw [e] at hj; simp at hj
    | some x =>
      rw [e] at hj
      obtain ⟨hl, e2⟩ := List.getElem?_eq_some_iff.1 e
      have := h (o + j) hl
      rw [e2] at this
      simp at hj
      rw [← hj]
      rw [Addr.add_lit]; exact this
  · simp at hj
set_option maxRecDepth 100000 in
set_option maxHeartbeats 8000000 in
theorem sortVers_some (b0 o0 cap : Nat) (L : List ByteArray) (w : World) (hL : ∀ j (h : j < L.length), w.cell? ⟨b0, o0 + j, none⟩ = some (.string L[j])) (h12 : L.length ≤ 1000) (hz : ∀ x, x ∈ L → x.size ≤ 80) :
    Calls Tryz.prog 178 #[.slice (some ⟨b0, o0, none⟩) L.length cap] w fun e w' => ∃ v X, e = .returned v ∧ w'.ownsRow w.heap.size 9 1 v X.length (X.map Value.string) ∧ Kept L L.length X ∧ Below w.heap.size w w' := by
  obtain ⟨i0, hi, hz0, hz1, hz2⟩ := info_parts infoStr
  have HL := hid hL
  have HZ := hid hz
  clear hL hz
  go_enter Tryz.func178, Tryz.ntmps178
  go_wp2_with fail
  go_loopw [3, 4] (fun v i wr => ∃ (k : Nat) (X : List ByteArray), k ≤ L.length ∧ X.length ≤ k ∧ i = .int .i64 k ∧ Hid (Kept L k X) ∧ Hid (Sv w wr b0 o0 L X v)) (fun _ i _ => L.length - (intOf i).toNat)
  case atStart => exact ⟨0, [], Nat.zero_le _, Nat.le_refl _, rfl, hid ⟨List.Pairwise.nil, fun t => by simp [bl]⟩, hid ⟨World.ownsRow_nil _ _ _ _, fun _ => rfl, Below.refl _ _, HL.out⟩⟩
  case round =>
    obtain ⟨k, X, hk, hXk, rfl, HK, HS⟩ := hrel
    by_cases hkL : k < L.length
    · have hcell := HS.out.ls k hkL
      have hq80 : L[k].size ≤ 80 := HZ.out _ (List.getElem_mem hkL)
      have HIV := hid (fun W => isVer_any L[k] W (by omega))
      have HKN := hid (fun h => kept_no hkL HK.out h)
      have HKO := hid (fun h => kept_old hkL HK.out h)
      have HKW := hid (fun h (j : Nat) hj h1 h2 => kept_new hkL HK.out h (j := j) hj h1 h2)
      have HLC := hid (fun (W : World) (v' : Value) (X' : List ByteArray) (h : Sv w W b0 o0 L X' v') => h.ls k hkL)
      have HX80 := hid (show ∀ x, x ∈ X → x.size < 999999 ∧ verErr x.data.toList = 0 from fun x hx => by
        have h1 := (HK.out.2 x.data.toList).1 (bl_mem hx)
        refine ⟨?_, h1.2⟩
        obtain ⟨y, hy, e⟩ := List.mem_map.1 h1.1
        have h2 := HZ.out y (List.mem_of_mem_take hy)
        have h3 := congrArg List.length e
        rw [len_eq, len_eq] at h3
        omega)
      generalize hq : L[k] = q at *
      clear hq
      have hkl : (k : Int) < (L.length : Int) := by omega
      have hk0 : (0 : Int) ≤ (k : Int) := by omega
      by_cases hv : verErr q.data.toList = 0
      · rw [decide_eq_true hv] at HIV
        have HV := hid hv
        clear hv
        go_wp2_with fail
        refine (HIV.out _).mono ?_
        rintro e w1 ⟨rfl, hb1⟩
        have HS1 := hid (HS.out.below hb1)
        clear hb1 hcell
        go_wp2_with fail
        go_loopw [6] (fun a wr2 => ∃ j : Nat, j ≤ X.length ∧ a = .int .i64 j ∧ Hid (∀ t (ht : t < X.length), t < j → ordV X[t].data.toList q.data.toList < 0) ∧ Hid (Sv w wr2 b0 o0 L X u3)) (fun a _ => X.length - (intOf a).toNat)
        case atStart => exact ⟨0, Nat.zero_le _, rfl, hid (fun t _ h => absurd h (Nat.not_lt_zero t)), HS1⟩
        case round =>
          obtain ⟨j, hj, rfl, HLT, HS2⟩ := hrel
          by_cases hX : X = []
          · subst hX
            obtain rfl := HS2.out.nl rfl
            obtain rfl : j = 0 := by simpa using hj
            go_wp2_with fail
            go_region
            have HSX := hid (HS2.out.below (below_drawn _ 1))
            have hc := HLC.out _ _ _ HS2.out
            have hwz := HS2.out.bl.size
            go_wp2_with (first
              | (at_builtin; refine wpList_append_own_none rfl _ _ 24 rfl 0 9 i0 1 Tryz.underlying24 hi _ _ _ rfl (World.ownsRow_nil _ _ _ _) rfl ?_)
              | (at_builtin; refine wpList_append_own _ rfl _ _ 24 rfl w.heap.size 9 i0 (.string ByteArray.empty) 1 16 Tryz.underlying24 hi hz0 hz1 hz2 rfl (by decide) _ _ _ rfl (World.ownsRow_nil _ _ _ _) ⟨wr.heap.size, 0, none⟩ 1 1 [.string q] rfl rfl ?c1 ?c2 ?c3 ?c4 ?c5 ?_))
            case c1 =>
              intro t u ht
              match t, ht with
              | 0, ht => simp at ht; subst ht; simp [Addr.add]
            case c2 => intro u hu; simp at hu; subst hu; rfl
            case c3 => unfold maxLen; omega
            case c4 => omega
            case c5 => simp; omega
            intro v1 W1 hown1 hgr1 _
            have HO1 := hid hown1
            have HB1 := hid (((Below.refl wr.heap.size wr).trans ((below_drawn wr 1).alloc (Nat.le_refl _) _)).grown hgr1 (by simp) (fun t ht => by cases ht))
            have HS3 := hid (HS2.out.below HB1.out)
            clear hown1 hgr1 hc
            go_wp2_with (at_builtin; refine wpList_append_own_none rfl _ _ 24 rfl _ 9 i0 1 Tryz.underlying24 hi _ _ _ rfl (HO1.out) rfl ?_)
            go_roundw
            case rel => exact ⟨k + 1, [q], by omega, by simp, by go_num, hid (by simpa using HKW.out HV.out 0 (Nat.zero_le _) (fun t ht => absurd ht (by simp)) (fun ht => absurd ht (by simp))), hid ⟨by simpa using HO1.out, (fun h => by cases h), HS3.out.bl, HS3.out.ls⟩⟩
            case measure => simp [intOf]; omega
          · obtain ⟨g, cp, rfl, hg, hgz, _⟩ := owned_cells HS2.out.own hX
            by_cases hjX : j < X.length
            · have HTW := hid (fun (W : World) (h : Sv w W b0 o0 L X (.slice (some ⟨g, 0, none⟩) X.length cp)) => And.intro (owned_at h.own j hjX) (And.intro (HLC.out _ _ _ h) (hid h)))
              have HXJ := hid (HX80.out X[j] (List.getElem_mem hjX))
              have HXM := hid (bl_mem (List.getElem_mem hjX))
              have hj0 : (0 : Int) ≤ (j : Int) := by omega
              have hjl : (j : Int) < (X.length : Int) := by omega
              by_cases ho : ordV X[j].data.toList q.data.toList < 0
              · have HL2 := hid (show ∀ t (ht : t < X.length), t < j + 1 → ordV X[t].data.toList q.data.toList < 0 from fun t ht hl => by
                  by_cases e : t = j
                  · subst e; exact ho
                  · exact HLT.out t ht (by omega))
                have HLT := hid True.intro
                generalize hxj : X[j] = xj at *
                clear hxj
                have HOV := hid (fun W => orderVer_any xj q W HXJ.out.1 (by omega) HXJ.out.2 HV.out)
                obtain ⟨x1, x2, _⟩ := HTW.out _ HS2.out
                generalize ordV xj.data.toList q.data.toList = od at HOV ho
                go_wp2_with fail
                go_region_held (fun W => W.cell? ⟨g, j, none⟩ = some (.string xj) ∧ W.cell? ⟨b0, o0 + k, none⟩ = some (.string q) ∧ Hid (Sv w W b0 o0 L X (.slice (some ⟨g, 0, none⟩) X.length cp))) (first | exact HTW.out _ HS3.out | exact HTW.out _ (HS2.out.below (below_drawn _ 1))) (first
                  | (go_at_call 56; refine (HOV.out _).mono ?_; rintro e w' ⟨rfl, hb⟩; have HS3 := hid ((HS2.out.below (below_drawn _ 1)).below hb); clear hb))
                all_goals
                  go_wp2_with fail
                  go_roundw
                  case rel => exact ⟨j + 1, by omega, by go_num, HL2, HS3⟩
                  case measure => simp [intOf]; omega
              · by_cases he : X[j] = q
                · have HK2 := hid (HKO.out (by rw [← he]; exact HXM.out))
                  subst he
                  generalize hxj : X[j] = xj at *
                  clear hxj
                  have HOV := hid (fun W => orderVer_any xj xj W HXJ.out.1 (by omega) HXJ.out.2 HV.out)
                  obtain ⟨x1, x2, _⟩ := HTW.out _ HS2.out
                  have hss : (xj.toList == xj.toList) = true := by simp
                  generalize ordV xj.data.toList xj.data.toList = od at HOV ho
                  go_wp2_with fail
                  go_region_held (fun W => W.cell? ⟨g, j, none⟩ = some (.string xj) ∧ W.cell? ⟨b0, o0 + k, none⟩ = some (.string xj) ∧ Hid (Sv w W b0 o0 L X (.slice (some ⟨g, 0, none⟩) X.length cp))) (first | exact HTW.out _ HS3.out | exact HTW.out _ (HS2.out.below (below_drawn _ 1))) (first
                    | (go_at_call 56; refine (HOV.out _).mono ?_; rintro e w' ⟨rfl, hb⟩; have HS3 := hid ((HS2.out.below (below_drawn _ 1)).below hb); clear hb))
                  all_goals
                    clear x1 x2
                    obtain ⟨x1, x2, _⟩ := HTW.out _ HS3.out
                    go_wp2_with fail
                    go_quiet (fail)
                    go_wp2_with fail
                    go_roundw
                    case rel => exact ⟨k + 1, X, by omega, by omega, by go_num, HK2, hid (HS3.out.below (below_drawn _ _))⟩
                    case measure => simp [intOf]; omega
                · have hss := str_ne he
                  have HKX := hid (HKW.out HV.out j hj HLT.out (fun _ => ⟨by omega, fun e => he (str_ext e)⟩))
                  clear he
                  generalize hxj : X[j] = xj at *
                  clear hxj
                  have HOV := hid (fun W => orderVer_any xj q W HXJ.out.1 (by omega) HXJ.out.2 HV.out)
                  obtain ⟨x1, x2, _⟩ := HTW.out _ HS2.out
                  generalize ordV xj.data.toList q.data.toList = od at HOV ho
                  go_wp2_with fail
                  go_region_held (fun W => W.cell? ⟨g, j, none⟩ = some (.string xj) ∧ W.cell? ⟨b0, o0 + k, none⟩ = some (.string q) ∧ Hid (Sv w W b0 o0 L X (.slice (some ⟨g, 0, none⟩) X.length cp))) (first | exact HTW.out _ HS3.out | exact HTW.out _ (HS2.out.below (below_drawn _ 1))) (first
                    | (go_at_call 56; refine (HOV.out _).mono ?_; rintro e w' ⟨rfl, hb⟩; have HS3 := hid ((HS2.out.below (below_drawn _ 1)).below hb); clear hb))
                  all_goals
                    clear x1 x2
                    obtain ⟨x1, x2, _⟩ := HTW.out _ HS3.out
                    go_wp2_with fail
                    go_quiet (fail)
                    have HSX := hid (HS3.out.below (below_drawn w' nq))
                    clear x1 x2
                    generalize w'.drewN nq = W at *
                    have hcl := owned_at HSX.out.own
                    have hc := HLC.out _ _ _ HSX.out
                    have hcap := owned_cap HSX.out.own
                    have hcp : cp ≤ 9223372036854775807 := hcap.2
                    have t1 : (0 : Int) ≤ (j : Int) := by omega
                    have t2 : (j : Int) ≤ (cp : Int) := by omega
                    have t3 : (j : Int) ≤ (X.length : Int) := by omega
                    have t4 : (X.length : Int) ≤ (cp : Int) := by omega
                    have HCL := hid hcl
                    clear hcl hcap
                    go_wp2_with (at_builtin; refine wpList_append_own _ rfl _ _ 24 rfl W.heap.size 9 i0 (.string ByteArray.empty) 1 16 Tryz.underlying24 hi hz0 hz1 hz2 rfl (by decide) _ _ _ rfl (World.ownsRow_nil _ _ _ _) ⟨g, 0, none⟩ j cp ((X.take j).map Value.string) rfl ?c0 ?c1 ?c2 ?c3 ?c4 ?c5 ?_)
                    case c0 => first | (simp; done) | (simp; omega)
                    case c1 => intro t u ht; exact news_at HCL.out 0 j t u (by simpa using ht)
                    case c2 => intro u hu; obtain ⟨x, _, rfl⟩ := List.mem_map.1 hu; rfl
                    case c3 => unfold maxLen; omega
                    case c4 => omega
                    case c5 => exact Nat.le_refl _
                    intro v1 W1 hown1 hgr1 _
                    have HO1 := hid hown1
                    have HB1 := hid (grown_below hgr1)
                    have HS4 := hid (HSX.out.below HB1.out)
                    have hc1 := HLC.out _ _ _ HS4.out
                    have hw1 := HB1.out.size
                    clear hown1 hgr1 hc
                    go_wp2_with (at_builtin; refine wpList_append_own _ rfl _ _ 24 rfl W.heap.size 9 i0 (.string ByteArray.empty) 1 16 Tryz.underlying24 hi hz0 hz1 hz2 rfl (by decide) _ _ _ rfl (HO1.out.alloc _) ⟨W1.heap.size, 0, none⟩ 1 1 [.string q] rfl rfl ?c1 ?c2 ?c3 ?c4 ?c5 ?_)
                    case c1 =>
                      intro t u ht
                      match t, ht with
                      | 0, ht => simp at ht; subst ht; simp [Addr.add]
                    case c2 => intro u hu; simp at hu; subst hu; rfl
                    case c3 => unfold maxLen; omega
                    case c4 => omega
                    case c5 => simp; omega
                    intro v2 W2 hown2 hgr2 _
                    have HO2 := hid hown2
                    have HB2 := hid (rel_app HB1.out.size HB1.out HO1.out (Below.refl _ _) hgr2)
                    have HS5 := hid (HSX.out.below HB2.out)
                    have HCL2 := hid (owned_at HS5.out.own)
                    have hw2 := HB2.out.size
                    clear hown2 hgr2 hc1
                    go_wp2_with (at_builtin; refine wpList_append_own _ rfl _ _ 24 rfl W.heap.size 9 i0 (.string ByteArray.empty) 1 16 Tryz.underlying24 hi hz0 hz1 hz2 rfl (by decide) _ _ _ rfl HO2.out ⟨g, j, none⟩ (X.length - j) (cp - j) ((X.drop j).map Value.string) rfl ?c0 ?c1 ?c2 ?c3 ?c4 ?c5 ?_)
                    case c0 => simp
                    case c1 => intro t u ht; exact news_at HCL2.out j (X.length - j) t u (by rw [List.take_of_length_le (by simp)]; exact ht)
                    case c2 => intro u hu; obtain ⟨x, _, rfl⟩ := List.mem_map.1 hu; rfl
                    case c3 => unfold maxLen; omega
                    case c4 => omega
                    case c5 => exact hw2
                    intro v3 W3 hown3 hgr3 _
                    have HB3 := hid (HB2.out.grown hgr3 hw2 (fun t ht => (HO2.out.lt t ht).1))
                    have HS6 := hid (HSX.out.below HB3.out)
                    have HO3 := hid (show W3.ownsRow w.heap.size 9 1 v3 (X.take j ++ q :: X.drop j).length ((X.take j ++ q :: X.drop j).map Value.string) by
                      have h := owns_mono hown3 (HSX.out.bl.size)
                      have e1 : (X.take j ++ q :: X.drop j).length = j + 1 + (X.length - j) := by simp; omega
                      rw [e1]
                      simpa using h)
                    clear hown3 hgr3
                    go_wp2_with fail
                    go_roundw
                    case rel => exact ⟨k + 1, X.take j ++ q :: X.drop j, by omega, by simp; omega, by go_num, HKX, hid ⟨HO3.out, (fun h => by simp at h), HS6.out.bl, HS6.out.ls⟩⟩
                    case measure => simp [intOf]; omega
            · obtain rfl : j = X.length := by omega
              have HKX := hid (HKW.out HV.out X.length hj HLT.out (fun h => absurd h hjX))
              go_wp2_with fail
              go_region
              have HSX := hid (show Sv w wr.drew b0 o0 L X (.slice (some ⟨g, 0, none⟩) X.length cp) from HS2.out.below (below_drawn wr 1))
              generalize wr.drew = W at *
              have hcap0 := owned_cap HSX.out.own
              by_cases hcx : cp = X.length
              · subst hcx
                have hcl := owned_at HSX.out.own
                have hc := HLC.out _ _ _ HSX.out
                have hcap := owned_cap HSX.out.own
                have hcp : X.length ≤ 9223372036854775807 := hcap.2
                have t1 : (0 : Int) ≤ (X.length : Int) := by omega
                have t2 : (X.length : Int) ≤ (X.length : Int) := by omega
                have t3 : (X.length : Int) ≤ (X.length : Int) := by omega
                have t4 : (X.length : Int) ≤ (X.length : Int) := by omega
                have HCL := hid hcl
                clear hcl hcap
                go_wp2_with (at_builtin; refine wpList_append_own _ rfl _ _ 24 rfl W.heap.size 9 i0 (.string ByteArray.empty) 1 16 Tryz.underlying24 hi hz0 hz1 hz2 rfl (by decide) _ _ _ rfl (World.ownsRow_nil _ _ _ _) ⟨g, 0, none⟩ (X.length) X.length ((X.take (X.length)).map Value.string) rfl ?c0 ?c1 ?c2 ?c3 ?c4 ?c5 ?_)
                case c0 => first | (simp; done) | (simp; omega)
                case c1 => intro t u ht; exact news_at HCL.out 0 (X.length) t u (by simpa using ht)
                case c2 => intro u hu; obtain ⟨x, _, rfl⟩ := List.mem_map.1 hu; rfl
                case c3 => unfold maxLen; omega
                case c4 => omega
                case c5 => exact Nat.le_refl _
                intro v1 W1 hown1 hgr1 _
                have HO1 := hid hown1
                have HB1 := hid (grown_below hgr1)
                have HS4 := hid (HSX.out.below HB1.out)
                have hc1 := HLC.out _ _ _ HS4.out
                have hw1 := HB1.out.size
                clear hown1 hgr1 hc
                go_wp2_with (at_builtin; refine wpList_append_own _ rfl _ _ 24 rfl W.heap.size 9 i0 (.string ByteArray.empty) 1 16 Tryz.underlying24 hi hz0 hz1 hz2 rfl (by decide) _ _ _ rfl (HO1.out.alloc _) ⟨W1.heap.size, 0, none⟩ 1 1 [.string q] rfl rfl ?c1 ?c2 ?c3 ?c4 ?c5 ?_)
                case c1 =>
                  intro t u ht
                  match t, ht with
                  | 0, ht => simp at ht; subst ht; simp [Addr.add]
                case c2 => intro u hu; simp at hu; subst hu; rfl
                case c3 => unfold maxLen; omega
                case c4 => omega
                case c5 => simp; omega
                intro v2 W2 hown2 hgr2 _
                have HO2 := hid hown2
                have HB2 := hid (rel_app HB1.out.size HB1.out HO1.out (Below.refl _ _) hgr2)
                have HS5 := hid (HSX.out.below HB2.out)
                have HCL2 := hid (owned_at HS5.out.own)
                have hw2 := HB2.out.size
                clear hown2 hgr2 hc1
                go_wp2_with (at_builtin; refine wpList_append_own _ rfl _ _ 24 rfl W.heap.size 9 i0 (.string ByteArray.empty) 1 16 Tryz.underlying24 hi hz0 hz1 hz2 rfl (by decide) _ _ _ rfl HO2.out _ _ _ [] rfl ?c0 ?c1 ?c2 ?c3 ?c4 ?c5 ?_)
                case c0 => simp
                case c1 => intro t u ht; simp at ht
                case c2 => intro u hu; cases hu
                case c3 => unfold maxLen; omega
                case c4 => omega
                case c5 => exact hw2
                intro v3 W3 hown3 hgr3 _
                have HB3 := hid (HB2.out.grown hgr3 hw2 (fun t ht => (HO2.out.lt t ht).1))
                have HS6 := hid (HSX.out.below HB3.out)
                have HO3 := hid (show W3.ownsRow w.heap.size 9 1 v3 (X.take (X.length) ++ q :: X.drop (X.length)).length ((X.take (X.length) ++ q :: X.drop (X.length)).map Value.string) by
                  have h := owns_mono hown3 (HSX.out.bl.size)
                  have e1 : (X.take (X.length) ++ q :: X.drop (X.length)).length = X.length + 1 := by simp
                  rw [e1]
                  simpa using h)
                clear hown3 hgr3
                go_wp2_with fail
                go_roundw
                case rel => exact ⟨k + 1, X.take (X.length) ++ q :: X.drop (X.length), by omega, by simp; omega, by go_num, HKX, hid ⟨HO3.out, (fun h => by simp at h), HS6.out.bl, HS6.out.ls⟩⟩
                case measure => simp [intOf]; omega
              · have hcx1 : X.length < cp := by omega
                have hcx2 : (X.length : Int) < (cp : Int) := by omega
                have hcl := owned_at HSX.out.own
                have hc := HLC.out _ _ _ HSX.out
                have hcap := owned_cap HSX.out.own
                have hcp : cp ≤ 9223372036854775807 := hcap.2
                have t1 : (0 : Int) ≤ (X.length : Int) := by omega
                have t2 : (X.length : Int) ≤ (cp : Int) := by omega
                have t3 : (X.length : Int) ≤ (X.length : Int) := by omega
                have t4 : (X.length : Int) ≤ (cp : Int) := by omega
                have HCL := hid hcl
                clear hcl hcap
                go_wp2_with (at_builtin; refine wpList_append_own _ rfl _ _ 24 rfl W.heap.size 9 i0 (.string ByteArray.empty) 1 16 Tryz.underlying24 hi hz0 hz1 hz2 rfl (by decide) _ _ _ rfl (World.ownsRow_nil _ _ _ _) ⟨g, 0, none⟩ (X.length) cp ((X.take (X.length)).map Value.string) rfl ?c0 ?c1 ?c2 ?c3 ?c4 ?c5 ?_)
                case c0 => first | (simp; done) | (simp; omega)
                case c1 => intro t u ht; exact news_at HCL.out 0 (X.length) t u (by simpa using ht)
                case c2 => intro u hu; obtain ⟨x, _, rfl⟩ := List.mem_map.1 hu; rfl
                case c3 => unfold maxLen; omega
                case c4 => omega
                case c5 => exact Nat.le_refl _
                intro v1 W1 hown1 hgr1 _
                have HO1 := hid hown1
                have HB1 := hid (grown_below hgr1)
                have HS4 := hid (HSX.out.below HB1.out)
                have hc1 := HLC.out _ _ _ HS4.out
                have hw1 := HB1.out.size
                clear hown1 hgr1 hc
                go_wp2_with (at_builtin; refine wpList_append_own _ rfl _ _ 24 rfl W.heap.size 9 i0 (.string ByteArray.empty) 1 16 Tryz.underlying24 hi hz0 hz1 hz2 rfl (by decide) _ _ _ rfl (HO1.out.alloc _) ⟨W1.heap.size, 0, none⟩ 1 1 [.string q] rfl rfl ?c1 ?c2 ?c3 ?c4 ?c5 ?_)
                case c1 =>
                  intro t u ht
                  match t, ht with
                  | 0, ht => simp at ht; subst ht; simp [Addr.add]
                case c2 => intro u hu; simp at hu; subst hu; rfl
                case c3 => unfold maxLen; omega
                case c4 => omega
                case c5 => simp; omega
                intro v2 W2 hown2 hgr2 _
                have HO2 := hid hown2
                have HB2 := hid (rel_app HB1.out.size HB1.out HO1.out (Below.refl _ _) hgr2)
                have HS5 := hid (HSX.out.below HB2.out)
                have HCL2 := hid (owned_at HS5.out.own)
                have hw2 := HB2.out.size
                clear hown2 hgr2 hc1
                go_wp2_with (at_builtin; refine wpList_append_own _ rfl _ _ 24 rfl W.heap.size 9 i0 (.string ByteArray.empty) 1 16 Tryz.underlying24 hi hz0 hz1 hz2 rfl (by decide) _ _ _ rfl HO2.out _ _ _ [] rfl ?c0 ?c1 ?c2 ?c3 ?c4 ?c5 ?_)
                case c0 => simp
                case c1 => intro t u ht; simp at ht
                case c2 => intro u hu; cases hu
                case c3 => unfold maxLen; omega
                case c4 => omega
                case c5 => exact hw2
                intro v3 W3 hown3 hgr3 _
                have HB3 := hid (HB2.out.grown hgr3 hw2 (fun t ht => (HO2.out.lt t ht).1))
                have HS6 := hid (HSX.out.below HB3.out)
                have HO3 := hid (show W3.ownsRow w.heap.size 9 1 v3 (X.take (X.length) ++ q :: X.drop (X.length)).length ((X.take (X.length) ++ q :: X.drop (X.length)).map Value.string) by
                  have h := owns_mono hown3 (HSX.out.bl.size)
                  have e1 : (X.take (X.length) ++ q :: X.drop (X.length)).length = X.length + 1 := by simp
                  rw [e1]
                  simpa using h)
                clear hown3 hgr3
                go_wp2_with fail
                go_roundw
                case rel => exact ⟨k + 1, X.take (X.length) ++ q :: X.drop (X.length), by omega, by simp; omega, by go_num, HKX, hid ⟨HO3.out, (fun h => by simp at h), HS6.out.bl, HS6.out.ls⟩⟩
                case measure => simp [intOf]; omega
      · rw [decide_eq_false hv] at HIV
        have HK2 := hid (HKN.out hv)
        clear hv
        go_wp2_with fail
        refine (HIV.out _).mono ?_
        rintro e w1 ⟨rfl, hb1⟩
        have HS1 := hid (HS.out.below hb1)
        clear hb1 hcell
        go_wp2_with fail
        go_roundw
        case rel => exact ⟨k + 1, X, by omega, by omega, by go_num, HK2, HS1⟩
        case measure => simp [intOf]; omega
    · have hke : k = L.length := by omega
      subst hke
      go_wp2_with fail
      go_ret
      exact ⟨_, X, rfl, HS.out.own, HK.out, HS.out.bl⟩
end Ve
end Go.Proofs.YtanponneancajaaGreatDoor


namespace Go.Proofs.YtanponneancajaaGreatDoor
open Go.RowKit Go.Maps
namespace Ve
def rnk (r : Raw) : Nat := if r.2.2.2 then 0 else if 0 < (preOf r.1.2.data.toList).length then 1 else 2
theorem rnk_b {r : Raw} (h : r.2.2.2 = true) : rnk r = 0 := if_pos h
theorem rnk_p {r : Raw} (h : r.2.2.2 = false) (hp : 0 < (preOf r.1.2.data.toList).length) : rnk r = 1 := by unfold rnk; rw [if_neg (by rw [h]; simp), if_pos hp]
theorem rnk_n {r : Raw} (h : r.2.2.2 = false) (hp : ¬ 0 < (preOf r.1.2.data.toList).length) : rnk r = 2 := by unfold rnk; rw [if_neg (by rw [h]; simp), if_neg hp]
theorem rnk_le (r : Raw) : rnk r ≤ 2 := by
  unfold rnk
  split
  · omega
  · split <;> omega
def rkV (Q : List Raw) (t v : ByteArray) : Nat := match Q.find? (fun r => decide (r.1.1 = t ∧ r.1.2 = v)) with
  | some r => rnk r
  | none => 0
def likS (Q : List Raw) (t : ByteArray) (s : ByteArray × Int) (v : ByteArray) : ByteArray × Int := if s.2 ≤ (rkV Q t v : Int) then (v, (rkV Q t v : Int)) else s
def likN (Q : List Raw) (t : ByteArray) (X : List ByteArray) (i : Nat) : ByteArray × Int := (X.take i).foldl (likS Q t) (⟨#[]⟩, -1)
theorem likN_next {Q : List Raw} {t : ByteArray} {X : List ByteArray} {i : Nat} (h : i < X.length) : likN Q t X (i + 1) = likS Q t (likN Q t X i) X[i] := by
  unfold likN
  rw [List.take_succ_eq_append_getElem h, List.foldl_append]; rfl
structure Lik (Q : List Raw) (t : ByteArray) (X : List ByteArray) (i : Nat) (s : ByteArray × Int) : Prop where
  z : i = 0 → s = (⟨#[]⟩, -1)
  p : 0 < i → ∃ j, ∃ hj : j < X.length, j < i ∧ s = (X[j], (rkV Q t X[j] : Int)) ∧ (∀ k (hk : k < X.length), k < i → rkV Q t X[k] ≤ rkV Q t X[j]) ∧ ∀ k (hk : k < X.length), k < i → j < k → rkV Q t X[k] < rkV Q t X[j]
theorem likN_is {Q : List Raw} {t : ByteArray} {X : List ByteArray} : ∀ i, i ≤ X.length → Lik Q t X i (likN Q t X i)
  | 0, _ => ⟨fun _ => rfl, fun h => absurd h (Nat.lt_irrefl _)⟩
  | i + 1, hi => by
    have h : i < X.length := hi
    have ih := likN_is (Q := Q) (t := t) (X := X) i (Nat.le_of_lt h)
    rw [likN_next h]
    refine ⟨fun e => by omega, fun _ => ?_⟩
    unfold likS
    by_cases h0 : i = 0
    · rw [ih.z h0]
      rw [if_pos (show (-1 : Int) ≤ (rkV Q t X[i] : Int) by omega)]
      refine ⟨i, h, by omega, rfl, fun k hk hki => ?_, fun k hk hki hik => by omega⟩
      have : k = i := by omega
      subst this; exact Nat.le_refl _
    · obtain ⟨j, hj, hji, hs, h1, h2⟩ := ih.p (by omega)
      rw [hs]
      by_cases hc : ((rkV Q t X[j] : Nat) : Int) ≤ (rkV Q t X[i] : Int)
      · rw [if_pos hc]
        refine ⟨i, h, by omega, rfl, fun k hk hki => ?_, fun k hk hki hik => by omega⟩
        rcases Nat.lt_or_ge k i with h3 | h3
        · have := h1 k hk h3; omega
        · have : k = i := by omega
          subst this; exact Nat.le_refl _
      · rw [if_neg hc]
        refine ⟨j, hj, by omega, rfl, fun k hk hki => ?_, fun k hk hki hjk => ?_⟩
        · rcases Nat.lt_or_ge k i with h3 | h3
          · exact h1 k hk h3
          · have : k = i := by omega
            subst this; omega
        · rcases Nat.lt_or_ge k i with h3 | h3
          · exact h2 k hk h3 hjk
          · have : k = i := by omega
            subst this; omega
theorem rkV_at {Q : List Raw} (g : Good Q) {r : Raw} (hr : r ∈ Q) : rkV Q r.1.1 r.1.2 = rnk r := by
  unfold rkV
  cases hf : Q.find? (fun x => decide (x.1.1 = r.1.1 ∧ x.1.2 = r.1.2)) with
  | none =>
    have := List.find?_eq_none.1 hf r hr
    simp at this
  | some s =>
    have h1 := List.find?_some hf
    have h2 := List.mem_of_find?_eq_some hf
    have h3 : s.1.1 = r.1.1 ∧ s.1.2 = r.1.2 := by simpa using h1
    rw [g.same h2 hr (Prod.ext h3.1 h3.2)]
theorem rnk_best {Q R : List Raw} (g : Good Q) (hR : ∀ r, r ∈ R → r ∈ Q) {r : Raw} (hr : r ∈ R) : r ∈ bestR R ↔ ∀ s, s ∈ R → rnk s ≤ rnk r := by
  have hv : ∀ s, s ∈ R → (isD s = true ↔ (preOf s.1.2.data.toList).length = 0) := fun s hs => by
    unfold isD preB
    rw [decide_eq_true (g.ver s (hR s hs)), Bool.true_and]
    simp
  have k2 : ∀ s, s ∈ R → (rnk s = 2 ↔ isS s = true ∧ isD s = true) := fun s hs => by
    rw [hv s hs]
    unfold isS
    cases hb : s.2.2.2
    · by_cases hp : 0 < (preOf s.1.2.data.toList).length
      · rw [rnk_p hb hp]
        exact ⟨fun h => absurd h (by decide), fun h => absurd h.2 (by omega)⟩
      · rw [rnk_n hb hp]
        exact ⟨fun _ => ⟨rfl, by omega⟩, fun _ => rfl⟩
    · rw [rnk_b hb]
      exact ⟨fun h => absurd h (by decide), fun h => absurd h.1 (by decide)⟩
  have k1 : ∀ s, s ∈ R → (0 < rnk s ↔ isS s = true) := fun s _ => by
    unfold isS
    cases hb : s.2.2.2
    · by_cases hp : 0 < (preOf s.1.2.data.toList).length
      · rw [rnk_p hb hp]; exact ⟨fun _ => rfl, fun _ => by decide⟩
      · rw [rnk_n hb hp]; exact ⟨fun _ => rfl, fun _ => by decide⟩
    · rw [rnk_b hb]; exact ⟨fun h => absurd h (by decide), fun h => absurd h (by decide)⟩
  have k3 := rnk_le
  unfold bestR
  by_cases hd : 0 < ((R.filter isS).filter isD).length
  · rw [if_pos hd]
    obtain ⟨x, hx⟩ := List.exists_mem_of_length_pos hd
    obtain ⟨hx1, hx2⟩ := List.mem_filter.1 hx
    obtain ⟨hx3, hx4⟩ := List.mem_filter.1 hx1
    have hx5 := (k2 x hx3).2 ⟨hx4, hx2⟩
    constructor
    · intro h s hs
      obtain ⟨h1, h2⟩ := List.mem_filter.1 h
      obtain ⟨h3, h4⟩ := List.mem_filter.1 h1
      rw [(k2 r h3).2 ⟨h4, h2⟩]; exact k3 s
    · intro h
      have := h x hx3
      have h2 := (k2 r hr).1 (by have := k3 r; omega)
      exact List.mem_filter.2 ⟨List.mem_filter.2 ⟨hr, h2.1⟩, h2.2⟩
  · rw [if_neg hd]
    have hno : ∀ s, s ∈ R → rnk s ≠ 2 := fun s hs h => hd (List.length_pos_of_mem (List.mem_filter.2 ⟨List.mem_filter.2 ⟨hs, ((k2 s hs).1 h).1⟩, ((k2 s hs).1 h).2⟩))
    by_cases hs2 : 0 < (R.filter isS).length
    · rw [if_pos hs2]
      obtain ⟨x, hx⟩ := List.exists_mem_of_length_pos hs2
      obtain ⟨hx1, hx2⟩ := List.mem_filter.1 hx
      have hx3 := (k1 x hx1).2 hx2
      constructor
      · intro h s hs
        obtain ⟨h1, h2⟩ := List.mem_filter.1 h
        have a1 := (k1 r h1).2 h2
        have a2 := k3 s
        have a3 := hno s hs
        omega
      · intro h
        have := h x hx1
        exact List.mem_filter.2 ⟨hr, (k1 r hr).1 (by omega)⟩
    · rw [if_neg hs2]
      constructor
      · intro _ s hs
        have : ¬ 0 < rnk s := fun h => hs2 (List.length_pos_of_mem (List.mem_filter.2 ⟨hs, (k1 s hs).1 h⟩))
        omega
      · intro _; exact hr
end Ve
end Go.Proofs.YtanponneancajaaGreatDoor


namespace Go.Proofs.YtanponneancajaaGreatDoor
open Go.RowKit
namespace Ve
theorem idx_is {P : Raw → Bool} {L : List Raw} {k : Nat} (h : idxOf P L = (k : Int)) : ∃ hk : k < L.length, P L[k] = true := by
  unfold idxOf at h
  cases h1 : fstE (idxE P L) L.length with
  | none => rw [h1] at h; simp only at h; omega
  | some j =>
    rw [h1] at h
    simp only at h
    have e : j = k := by omega
    subst e
    obtain ⟨a, b, _⟩ := fstE_of_some h1
    refine ⟨a, ?_⟩
    rw [idxE_at a] at b
    cases hp : P L[j] with
    | true => rfl
    | false => rw [hp] at b; exact absurd rfl b
theorem ErrAt.kind {W : World} {A : Nat → Addr} {x : Value} {c : Nat} {o : Option Nat} (h : ErrAt W A x c o) : (c = 0 ∧ x = .nilIface) ∨ (c ≠ 0 ∧ ∃ T a, x = .iface T (.pointer (some a))) := by
  cases o with
  | none =>
    have h : x = errA A c := h
    by_cases hc : c = 0
    · subst hc; exact Or.inl ⟨rfl, h⟩
    · obtain ⟨a, ha⟩ := errA_ne A hc
      exact Or.inr ⟨hc, _, a, h.trans ha⟩
  | some i =>
    obtain ⟨h1, b, h2, _⟩ := h
    exact Or.inr ⟨h1, _, _, h2⟩
theorem okI_iff {L : List Ent} (h : okI L = true) : (L.length ≤ 30 ∨ L.length = 101) ∧ ∀ e, e ∈ L → e.1.1.size ≤ 70 ∧ e.1.2.size ≤ 60 ∧ e.2.1.length ≤ 25 ∧ (∀ m, m ∈ e.2.1 → m.1.size ≤ 70 ∧ m.2.size ≤ 60) ∧ e.2.2.1.length ≤ 15 ∧ ∀ x, x ∈ e.2.2.1 → x.size ≤ 70 := by
  unfold okI at h
  rw [Bool.and_eq_true] at h
  obtain ⟨h1, h2⟩ := h
  refine ⟨by simpa [okN] using h1, fun e he => ?_⟩
  have h3 := List.all_eq_true.1 h2 e he
  unfold okE at h3
  simp only [Bool.and_eq_true, decide_eq_true_eq] at h3
  obtain ⟨⟨⟨⟨a, b⟩, c⟩, d⟩, f⟩ := h3
  obtain ⟨c1, c2⟩ := okL_iff c
  refine ⟨a, b, c1, c2, d, fun x hx => ?_⟩
  have := List.all_eq_true.1 f x hx
  simpa using this
theorem okI_sh {L : List Ent} (h : okI L = true) : ∀ e, e ∈ L → ShE e := fun e he => by
  obtain ⟨a, b, c, d, f, g⟩ := (okI_iff h).2 e he
  exact ⟨by omega, by omega, by omega, fun m hm => ⟨by have := (d m hm).1; omega, by have := (d m hm).2; omega⟩, by omega, fun x hx => by have := g x hx; omega⟩
theorem okI_fits {L : List Ent} (h : okI L = true) : ∀ e, e ∈ L → Fits e := fun e he => by
  obtain ⟨a, b, c, d, f, g⟩ := (okI_iff h).2 e he
  exact ⟨by omega, by omega⟩
theorem ixs_sz {w : World} {v : Value} {Q : List Raw} {L : List Ent} (I : Ixs w v Q L) (h : okI L = true) : ∀ r, r ∈ Q → r.1.1.size ≤ 80 ∧ r.1.2.size ≤ 80 := fun r hr => by
  obtain ⟨j, hj, rfl⟩ := List.getElem_of_mem hr
  have hj2 : j < L.length := by rw [← I.ln]; exact hj
  have hm := (I.ok j hj hj2).m
  obtain ⟨a, b, _⟩ := (okI_iff h).2 L[j] (List.getElem_mem hj2)
  rw [hm]
  exact ⟨by omega, by omega⟩
theorem nx_idx {t n : Nat} (h : t < n) (h2 : n ≤ 1000000) : Value.int .i64 (wrap64 ((t : Int) + 1)) = .int .i64 ((t + 1 : Nat) : Int) := by
  rw [IntWalk.wrap64_in _ (by omega)]; rfl
theorem nx_meas {t n : Nat} (h : t < n) (h2 : n ≤ 1000000) : n - (intOf (Value.int .i64 (wrap64 ((t : Int) + 1)))).toNat < n - (intOf (Value.int .i64 (t : Int))).toNat := by
  rw [IntWalk.wrap64_in _ (by omega)]
  show n - ((t : Int) + 1).toNat < n - ((t : Int)).toNat
  omega
theorem nr_idx (t : Nat) : Value.int .i64 ((t : Int) + 1) = .int .i64 ((t + 1 : Nat) : Int) := rfl
theorem nr_meas {t n : Nat} (h : t < n) : n - (intOf (Value.int .i64 ((t : Int) + 1))).toNat < n - (intOf (Value.int .i64 (t : Int))).toNat := by
  show n - ((t : Int) + 1).toNat < n - ((t : Int)).toNat
  omega
end Ve
end Go.Proofs.YtanponneancajaaGreatDoor


namespace Go.Proofs.YtanponneancajaaGreatDoor
open Go.RowKit Go.Maps
namespace Ve
def eqM (x m : Bm) : Bool := decide (x.1 = m.1 ∧ x.2 = m.2)
theorem eqM_run (x m : Bm) (W : World) : (binOp .eql 51 (.agg #[.string x.1, .string x.2]) (.agg #[.string m.1, .string m.2])).run Tryz.prog W = .ok (.bool (eqM x m)) W := modEql x.1 x.2 m.1 m.2 W
set_option maxRecDepth 100000 in
set_option maxHeartbeats 1000000 in
theorem findOf_some (L : List Raw) (m : Bm) (b o c : Nat) (w : World) (hL : L.length ≤ 1000000)
    (hc : ∀ j (h : j < L.length), w.cell? ⟨b, o + j * 5, none⟩ = some (.string L[j].1.1) ∧ w.cell? ⟨b, o + j * 5 + 1, none⟩ = some (.string L[j].1.2)) :
    Calls Tryz.prog 37 #[.slice (some ⟨b, o, none⟩) L.length c, .agg #[.string m.1, .string m.2]] w fun e w' => e = .returned (.int .i64 (idxOf (isM m) L)) ∧ Below w.heap.size w w' := by
  have HC := hid hc
  have hgd := modGuard
  generalize hr : idxOf (isM m) L = r
  have HR := hid hr
  have HB0 := hid ((Below.refl w.heap.size w).alloc (Nat.le_refl _) (.cells #[.string m.1, .string m.2] 51))
  have HE0 := hid (heap_new w (.cells #[.string m.1, .string m.2] 51))
  clear hc hr
  go_enter Tryz.func37, Tryz.ntmps37
  go_wp2_with fail
  generalize hw1 : w.alloc (.cells #[.string m.1, .string m.2] 51) = w1 at *
  clear hw1
  go_loopw [5] (fun i wr => ∃ k : Nat, k ≤ L.length ∧ i = .int .i64 k ∧ Hid (∀ j (h : j < L.length), j < k → isM m L[j] = false) ∧ Hid (Below w1.heap.size w1 wr)) (fun i _ => L.length - (intOf i).toNat)
  case atStart => exact ⟨0, Nat.zero_le _, rfl, hid (fun j _ hj => absurd hj (by omega)), hid (Below.refl _ _)⟩
  case round =>
    obtain ⟨k, hk, rfl, HA, HB⟩ := hrel
    have HBw := hid (HB0.out.trans (HB.out.mono HB0.out.size))
    by_cases hlt : k < L.length
    · have x0 := cell_below HBw.out (HC.out k hlt).1
      have x1 := cell_below HBw.out (HC.out k hlt).2
      have hE : wr.heap[w.heap.size]? = some (.cells #[.string m.1, .string m.2] 51 (0, 0)) := (HB.out.block _ (lt_of_blk HE0.out)).trans HE0.out
      have y0 : wr.cell? ⟨w.heap.size, 0, none⟩ = some (.string m.1) := by rw [Lib.cell_of_heap hE]; rfl
      have y1 : wr.cell? ⟨w.heap.size, 1, none⟩ = some (.string m.2) := by rw [Lib.cell_of_heap hE]; rfl
      have HF := hid (fun h => idx_hit hlt HA.out h)
      have HN := hid (fun h => idx_next hlt HA.out h)
      have HEQ := hid (show isM m L[k] = eqM L[k].1 m from rfl)
      have hkI : (k : Int) < (L.length : Int) := by omega
      have HLT := hid hlt
      clear hE
      generalize L[k] = x at *
      clear hlt
      have heq := fun W => eqM_run x.1 m W
      cases he : eqM x.1 m with
      | false =>
        rw [he] at heq HEQ
        have HN2 := hid (HN.out HEQ.out)
        clear HF HN HEQ he
        go_wp2_with fail
        go_quiet (fail)
        go_wp2_with fail
        go_roundw
        case rel => first | exact ⟨k + 1, HLT.out, nr_idx k, HN2, hid (below_drawn_of HB.out _)⟩ | exact ⟨k + 1, HLT.out, nx_idx HLT.out hL, HN2, hid (below_drawn_of HB.out _)⟩
        case measure => first | exact nr_meas HLT.out | exact nx_meas HLT.out hL
      | true =>
        rw [he] at heq HEQ
        have HF2 := hid (HF.out HEQ.out)
        clear HF HN HEQ he
        go_wp2_with fail
        go_quiet (fail)
        go_wp2_with fail
        go_ret
        exact ⟨by rw [← HR.out, HF2.out]; rfl, below_drawn_of HBw.out _⟩
    · have HF := hid (show idxOf (isM m) L = -1 by unfold idxOf; rw [fstE_none (idxE_zero (Nat.le_refl _) (fun j hj _ => HA.out j hj (by omega)))])
      have hkI : ¬ (k : Int) < (L.length : Int) := by omega
      clear hlt
      go_wp2_with fail
      go_ret
      exact ⟨by rw [← HR.out, HF.out]; rfl, HBw.out⟩
theorem findOf_any (L : List Raw) (m : Bm) (v : Value) (w : World) (hL : L.length ≤ 1000000) (h0 : 0 < L.length) (hv : EsAt w v L) :
    Calls Tryz.prog 37 #[v, .agg #[.string m.1, .string m.2]] w fun e w' => e = .returned (.int .i64 (idxOf (isM m) L)) ∧ Below w.heap.size w w' := by
  obtain ⟨a, c, rfl, _, _, h⟩ := hv
  obtain ⟨b, o, rfl, h2⟩ := h (fun e => by rw [e] at h0; exact absurd h0 (Nat.lt_irrefl _))
  exact findOf_some L m b o c w hL (fun j hj => ⟨(h2 j hj).1, (h2 j hj).2.1⟩)
theorem MsAt.cells {w : World} {a : Option Addr} {n c : Nat} {L : List Bm} (h : MsAt w (.slice a n c) L) {k : Nat} (hk : k < L.length) : ∃ b o, a = some ⟨b, o, none⟩ ∧ w.cell? ⟨b, o + k * 2, none⟩ = some (.string L[k].1) ∧ w.cell? ⟨b, o + k * 2 + 1, none⟩ = some (.string L[k].2) := by
  obtain ⟨a', c', e, _, h⟩ := h
  injection e with e1 e2 e3
  subst e1
  obtain ⟨b, o, e4, h4⟩ := h (by intro h0; rw [h0] at hk; simp at hk)
  exact ⟨b, o, e4, h4 k hk⟩
theorem es_cells {W : World} {a : Option Addr} {n c : Nat} {Q : List Raw} (h : EsAt W (.slice a n c) Q) {k : Nat} (hk : k < Q.length) : ∃ b o, a = some ⟨b, o, none⟩ ∧ W.cell? ⟨b, o + k * 5 + 2, none⟩ = some Q[k].2.1 := by
  obtain ⟨a', c', e, _, _, h⟩ := h
  injection e with e1 e2 e3
  subst e1
  obtain ⟨b', o', e4, h4⟩ := h (by intro h0; rw [h0] at hk; simp at hk)
  exact ⟨b', o', e4, (h4 k hk).2.2.1⟩
theorem findOf_noneJ (a : Option Addr) (c : Nat) (m : Bm) (w : World) : Calls Tryz.prog 37 #[.slice a 0 c, .agg #[.string m.1, .string m.2]] w fun e w' => e = .returned (.int .i64 (-1)) ∧ Below w.heap.size w w' := by
  have HB0 := hid ((Below.refl w.heap.size w).alloc (Nat.le_refl _) (.cells #[.string m.1, .string m.2] 51))
  go_enter Tryz.func37, Tryz.ntmps37
  go_wp2_with fail
  go_loopw [5] (fun i wr => i = .int .i64 0 ∧ Hid (Below w.heap.size w wr)) (fun i _ => 0)
  case atStart => exact ⟨rfl, HB0⟩
  case round =>
    obtain ⟨rfl, HB⟩ := hrel
    go_wp2_with fail
    go_ret
    exact ⟨rfl, HB.out⟩
theorem findOf_allJ (Q : List Raw) (m : Bm) (v : Value) (w : World) (hL : Q.length ≤ 1000000) (hv : EsAt w v Q) :
    Calls Tryz.prog 37 #[v, .agg #[.string m.1, .string m.2]] w fun e w' => e = .returned (.int .i64 (idxOf (isM m) Q)) ∧ Below w.heap.size w w' := by
  by_cases hQ : Q = []
  · subst hQ
    obtain ⟨a, c, rfl, _⟩ := hv
    exact findOf_noneJ a c m w
  · exact findOf_any Q m v w hL (List.length_pos_iff.2 hQ) hv
end Ve
end Go.Proofs.YtanponneancajaaGreatDoor


namespace Go.Proofs.YtanponneancajaaGreatDoor
open Go.RowKit Go.Maps
namespace Ve
theorem isM_same {Q Q' : List Raw} (h : Q.map (fun r => r.1) = Q'.map (fun r => r.1)) (m : Bm) : idxOf (isM m) Q = idxOf (isM m) Q' := by
  have hl : Q.length = Q'.length := by have := congrArg List.length h; simpa using this
  have hf : idxE (isM m) Q = idxE (isM m) Q' := funext fun i => by
    have hi := congrArg (fun X : List Bm => X[i]?) h
    simp only [List.getElem?_map] at hi
    unfold idxE
    cases h1 : Q[i]? with
    | none =>
      rw [h1] at hi
      cases h2 : Q'[i]? with
      | none => rfl
      | some r => rw [h2] at hi; simp at hi
    | some r =>
      rw [h1] at hi
      cases h2 : Q'[i]? with
      | none => rw [h2] at hi; simp at hi
      | some r' =>
        rw [h2] at hi
        have : r.1 = r'.1 := by simpa using hi
        show (if isM m r then 1 else 0) = if isM m r' then 1 else 0
        rw [show isM m r = isM m r' by unfold isM; rw [this]]
  unfold idxOf
  rw [hf, hl]
theorem nonE_same {Q Q' : List Raw} (h : Q.map (fun r => r.1) = Q'.map (fun r => r.1)) (R : List Bm) : nonE Q R = nonE Q' R := funext fun i => by
  unfold nonE nonW
  split
  · rfl
  · rw [isM_same h]
theorem chk_same {Q Q' : List Raw} {L : List Ent} (h : Q.map (fun r => r.1) = Q'.map (fun r => r.1)) : chk Q L = chk Q' L := by
  have hr : reqE2 Q L = reqE2 Q' L := funext fun i => by
    unfold reqE2
    split
    · rfl
    · rw [nonE_same h]
  unfold chk
  rw [hr]
end Ve
end Go.Proofs.YtanponneancajaaGreatDoor


namespace Go.Proofs.YtanponneancajaaGreatDoor
namespace Ve
abbrev By := List (Bm × Bm)
def whoT (T : By) : List Bm := T.map fun x => x.1
theorem whoT_len (T : By) : (whoT T).length = T.length := by simp [whoT]
theorem whoT_get {T : By} {k : Nat} (h : k < T.length) : (whoT T)[k]'(by rw [whoT_len]; exact h) = T[k].1 := by simp [whoT]
theorem whoT_mem {T : By} {m : Bm} : m ∈ whoT T ↔ ∃ k, ∃ h : k < T.length, T[k].1 = m := by
  constructor
  · intro h
    obtain ⟨k, hk, e⟩ := List.getElem_of_mem h
    have hk2 : k < T.length := by rw [← whoT_len]; exact hk
    exact ⟨k, hk2, by rw [← whoT_get hk2]; exact e⟩
  · rintro ⟨k, h, rfl⟩
    exact List.mem_map.2 ⟨T[k], List.getElem_mem h, rfl⟩
def cameB (T : By) (m : Bm) : Bool := T.any fun x => decide (x.1.1 = m.1 ∧ x.1.2 = m.2)
theorem cameB_iff {T : By} {m : Bm} : cameB T m = true ↔ m ∈ whoT T := by
  unfold cameB
  rw [List.any_eq_true]
  constructor
  · rintro ⟨x, hx, h⟩
    have h2 := of_decide_eq_true h
    exact List.mem_map.2 ⟨x, hx, Prod.ext h2.1 h2.2⟩
  · intro h
    obtain ⟨x, hx, e⟩ := List.mem_map.1 h
    exact ⟨x, hx, decide_eq_true (by rw [e]; exact ⟨rfl, rfl⟩)⟩
theorem cameB_not {T : By} {m : Bm} (h : cameB T m = false) : m ∉ whoT T := fun hm => by rw [cameB_iff.2 hm] at h; cases h
def comeT (T : By) (m f : Bm) : By := if cameB T m then T else T ++ [(m, f)]
theorem come_yes {T : By} {m f : Bm} (h : cameB T m = true) : comeT T m f = T := by unfold comeT; rw [if_pos h]
theorem come_no {T : By} {m f : Bm} (h : cameB T m = false) : comeT T m f = T ++ [(m, f)] := by unfold comeT; rw [h]; rfl
theorem whoT_app (T : By) (m f : Bm) : whoT (T ++ [(m, f)]) = whoT T ++ [m] := by simp [whoT]
theorem come_mem (T : By) (m f : Bm) : m ∈ whoT (comeT T m f) := by
  cases h : cameB T m
  · rw [come_no h, whoT_app]; simp
  · rw [come_yes h]; exact cameB_iff.1 h
theorem come_sub {T : By} {m f x : Bm} (h : x ∈ whoT T) : x ∈ whoT (comeT T m f) := by
  cases hc : cameB T m
  · rw [come_no hc, whoT_app]; simp [h]
  · rw [come_yes hc]; exact h
theorem come_old (T : By) (m f : Bm) : ∃ R, comeT T m f = T ++ R := by
  cases hc : cameB T m
  · exact ⟨[(m, f)], come_no hc⟩
  · exact ⟨[], by rw [come_yes hc]; simp⟩
theorem nd_len {α : Type} [DecidableEq α] : ∀ (a b : List α), a.Nodup → (∀ x, x ∈ a → x ∈ b) → a.length ≤ b.length
  | [], _, _, _ => Nat.zero_le _
  | x :: a, b, hn, hs => by
    obtain ⟨h1, h2⟩ := List.nodup_cons.1 hn
    have hx := hs x (by simp)
    have h3 := nd_len a (b.erase x) h2 (fun y hy => (List.mem_erase_of_ne (fun e => h1 (by rw [← e]; exact hy))).2 (hs y (List.mem_cons_of_mem _ hy)))
    rw [List.length_erase_of_mem hx] at h3
    have := List.length_pos_of_mem hx
    simp
    omega
structure Bfs (req : Bm → List Bm) (U roots : List Bm) (T : By) (i : Nat) : Prop where
  le : i ≤ T.length
  nd : (whoT T).Nodup
  un : ∀ m, m ∈ whoT T → m ∈ U
  by_ : ∀ k (h : k < T.length), (T[k].1 = T[k].2 ∧ T[k].1 ∈ roots) ∨ ∃ j, ∃ hj : j < k, (T[j]'(Nat.lt_trans hj h)).1 = T[k].2 ∧ T[k].1 ∈ req T[k].2
  cl : ∀ j (h : j < T.length), j < i → ∀ m, m ∈ req T[j].1 → m ∈ whoT T
theorem Bfs.none (req : Bm → List Bm) (U roots : List Bm) : Bfs req U roots [] 0 := ⟨Nat.le_refl _, by simp [whoT], fun m h => by simp [whoT] at h, fun k h => absurd h (Nat.not_lt_zero _), fun j h => absurd h (Nat.not_lt_zero _)⟩
theorem Bfs.len {req : Bm → List Bm} {U roots : List Bm} {T : By} {i : Nat} (h : Bfs req U roots T i) : T.length ≤ U.length := by
  have := nd_len (whoT T) U h.nd h.un
  rw [whoT_len] at this
  exact this
theorem Bfs.come {req : Bm → List Bm} {U roots : List Bm} {T : By} {i : Nat} (h : Bfs req U roots T i) {m f : Bm} (hm : m ∈ U) (hf : (m = f ∧ m ∈ roots) ∨ (f ∈ whoT T ∧ m ∈ req f)) : Bfs req U roots (comeT T m f) i := by
  cases hc : cameB T m
  · rw [come_no hc]
    have hn : m ∉ whoT T := cameB_not hc
    refine ⟨by have := h.le; simp; omega, ?_, ?_, ?_, ?_⟩
    · rw [whoT_app]
      exact List.nodup_append.2 ⟨h.nd, by simp, fun a ha b hb e => by simp at hb; subst hb; subst e; exact hn ha⟩
    · intro x hx
      rw [whoT_app] at hx
      rcases List.mem_append.1 hx with hx | hx
      · exact h.un x hx
      · simp at hx; subst hx; exact hm
    · intro k hk
      by_cases hkT : k < T.length
      · have e : (T ++ [(m, f)])[k] = T[k] := List.getElem_append_left hkT
        rw [e]
        rcases h.by_ k hkT with h1 | ⟨j, hj, h2, h3⟩
        · exact Or.inl h1
        · exact Or.inr ⟨j, hj, by rw [List.getElem_append_left (by omega)]; exact h2, h3⟩
      · have hk2 : k = T.length := by simp at hk; omega
        subst hk2
        have e : (T ++ [(m, f)])[T.length] = (m, f) := by simp
        rw [e]
        rcases hf with hf | ⟨hf, hr⟩
        · exact Or.inl hf
        · obtain ⟨j, hj, ej⟩ := whoT_mem.1 hf
          exact Or.inr ⟨j, hj, by rw [List.getElem_append_left hj]; exact ej, hr⟩
    · intro j hj hji x hx
      rw [whoT_app]
      by_cases hjT : j < T.length
      · rw [List.getElem_append_left hjT] at hx
        exact List.mem_append_left _ (h.cl j hjT hji x hx)
      · have := h.le; omega
  · rw [come_yes hc]; exact h
theorem Bfs.next {req : Bm → List Bm} {U roots : List Bm} {T : By} {i : Nat} (h : Bfs req U roots T i) (hi : i < T.length) (hr : ∀ m, m ∈ req T[i].1 → m ∈ whoT T) : Bfs req U roots T (i + 1) :=
  ⟨hi, h.nd, h.un, h.by_, fun j hj hji m hm => by
    rcases Nat.lt_or_ge j i with h1 | h1
    · exact h.cl j hj h1 m hm
    · have : j = i := by omega
      subst this
      exact hr m hm⟩
inductive Rch (req : Bm → List Bm) (roots : List Bm) : Bm → Prop
  | root {m : Bm} : m ∈ roots → Rch req roots m
  | step {p m : Bm} : Rch req roots p → m ∈ req p → Rch req roots m
theorem Bfs.only {req : Bm → List Bm} {U roots : List Bm} {T : By} {i : Nat} (h : Bfs req U roots T i) : ∀ (n k : Nat) (hk : k < T.length), k ≤ n → Rch req roots T[k].1
  | 0, k, hk, hn => by
    rcases h.by_ k hk with h1 | ⟨j, hj, _⟩
    · exact .root h1.2
    · omega
  | n + 1, k, hk, hn => by
    rcases h.by_ k hk with h1 | ⟨j, hj, h2, h3⟩
    · exact .root h1.2
    · have := h.only n j (by omega) (by omega)
      rw [h2] at this
      exact .step this h3
inductive Wn (req : Bm → List Bm) (roots : List Bm) : Nat → Bm → Prop
  | root {m : Bm} : m ∈ roots → Wn req roots 1 m
  | step {n : Nat} {p m : Bm} : Wn req roots n p → m ∈ req p → Wn req roots (n + 1) m
theorem Wn.pos {req : Bm → List Bm} {roots : List Bm} {n : Nat} {m : Bm} (h : Wn req roots n m) : 1 ≤ n := by
  cases h with
  | root _ => exact Nat.le_refl _
  | step _ _ => omega
def Dst (req : Bm → List Bm) (roots : List Bm) (m : Bm) (n : Nat) : Prop := Wn req roots n m ∧ ∀ k, Wn req roots k m → n ≤ k
structure LvOk (req : Bm → List Bm) (roots : List Bm) (T : By) (i : Nat) (V : List Nat) : Prop where
  ln : V.length = T.length
  wn : ∀ k (h : k < T.length) (h' : k < V.length), Wn req roots V[k] T[k].1
  st : ∀ k (h : k < T.length) (h' : k < V.length), (T[k].1 = T[k].2 ∧ V[k] = 1) ∨ ∃ j, ∃ hj : j < k, (T[j]'(Nat.lt_trans hj h)).1 = T[k].2 ∧ V[k] = (V[j]'(Nat.lt_trans hj h')) + 1
  mo : ∀ a b (hb : b < V.length) (hab : a < b), (V[a]'(Nat.lt_trans hab hb)) ≤ V[b]
  nx : ∀ k (h : k < V.length) (hi : i < V.length), V[k] ≤ V[i] + 1
  pr : ∀ j (h : j < T.length) (h' : j < V.length), j < i → ∀ m, m ∈ req T[j].1 → ∃ k, ∃ hk : k < T.length, ∃ hk' : k < V.length, T[k].1 = m ∧ V[k] ≤ V[j] + 1
  rt : ∀ k (h : k < T.length) (h' : k < V.length), T[k].1 ∈ roots → V[k] = 1
theorem LvOk.none (req : Bm → List Bm) (roots : List Bm) : LvOk req roots [] 0 [] :=
  ⟨rfl, fun _ h => absurd h (Nat.not_lt_zero _), fun _ h => absurd h (Nat.not_lt_zero _), fun _ _ hb => absurd hb (Nat.not_lt_zero _), fun _ h => absurd h (Nat.not_lt_zero _), fun _ h => absurd h (Nat.not_lt_zero _), fun _ h => absurd h (Nat.not_lt_zero _)⟩
theorem LvOk.push {req : Bm → List Bm} {roots : List Bm} {T : By} {i : Nat} {V : List Nat} (h : LvOk req roots T i V) {m f : Bm} {l : Nat} (hw : Wn req roots l m)
    (hs : (m = f ∧ l = 1) ∨ ∃ j, ∃ hj : j < T.length, T[j].1 = f ∧ l = (V[j]'(by rw [h.ln]; exact hj)) + 1) (hm : ∀ k (hk : k < V.length), V[k] ≤ l) (hn : ∀ (hi : i < V.length), l ≤ V[i] + 1) (hi0 : i ≤ T.length) (hi1 : i = V.length → l ≤ l + 1) (hr : m ∈ roots → l = 1) : LvOk req roots (T ++ [(m, f)]) i (V ++ [l]) := by
  have hl : V.length = T.length := h.ln
  have gT : ∀ k (hk : k < T.length) (hk' : k < (T ++ [(m, f)]).length), (T ++ [(m, f)])[k] = T[k] := fun k hk _ => List.getElem_append_left hk
  have gV : ∀ k (hk : k < V.length) (hk' : k < (V ++ [l]).length), (V ++ [l])[k] = V[k] := fun k hk _ => List.getElem_append_left hk
  have eT : ∀ (hk' : T.length < (T ++ [(m, f)]).length), (T ++ [(m, f)])[T.length] = (m, f) := fun _ => by simp
  have eV : ∀ (hk' : T.length < (V ++ [l]).length), (V ++ [l])[T.length] = l := fun _ => by
    have : ∀ (n : Nat) (hn : n = V.length) (hk : n < (V ++ [l]).length), (V ++ [l])[n] = l := fun n hn hk => by subst hn; simp
    exact this _ hl.symm _
  refine ⟨by simp [hl], ?_, ?_, ?_, ?_, ?_, ?_⟩
  · intro k hk hk'
    by_cases hT : k < T.length
    · rw [gT k hT hk, gV k (by omega) hk']; exact h.wn k hT _
    · have : k = T.length := by simp at hk; omega
      subst this
      rw [eT hk, eV hk']; exact hw
  · intro k hk hk'
    by_cases hT : k < T.length
    · rw [gT k hT hk, gV k (by omega) hk']
      rcases h.st k hT (by omega) with h1 | ⟨j, hj, h2, h3⟩
      · exact Or.inl h1
      · exact Or.inr ⟨j, hj, by rw [gT j (by omega)]; exact h2, by rw [gV j (by omega)]; exact h3⟩
    · have : k = T.length := by simp at hk; omega
      subst this
      rw [eT hk, eV hk']
      rcases hs with h1 | ⟨j, hj, h2, h3⟩
      · exact Or.inl h1
      · exact Or.inr ⟨j, hj, by rw [gT j hj]; exact h2, by rw [gV j (by omega)]; exact h3⟩
  · intro a b hb hab
    by_cases hB : b < V.length
    · rw [gV b hB hb, gV a (by omega)]; exact h.mo a b hB hab
    · have : b = T.length := by simp at hb; omega
      subst this
      rw [eV hb, gV a (by omega)]
      exact hm a (by omega)
  · intro k hk hi
    by_cases hI : i < V.length
    · rw [gV i hI hi]
      by_cases hK : k < V.length
      · rw [gV k hK hk]; exact h.nx k hK hI
      · have : k = T.length := by simp at hk; omega
        subst this
        rw [eV hk]; exact hn hI
    · have hie : i = T.length := by simp at hi; omega
      subst hie
      rw [eV hi]
      by_cases hK : k < V.length
      · rw [gV k hK hk]; exact Nat.le_succ_of_le (hm k hK)
      · have : k = T.length := by simp at hk; omega
        subst this
        rw [eV hk]; omega
  · intro j hj hj' hji x hx
    have hjT : j < T.length := by omega
    rw [gT j hjT hj] at hx
    obtain ⟨k, hk, hk', e, hle⟩ := h.pr j hjT (by omega) hji x hx
    refine ⟨k, by simp; omega, by simp; omega, by rw [gT k hk]; exact e, ?_⟩
    rw [gV k hk', gV j (by omega)]; exact hle
  · intro k hk hk' hx
    by_cases hT : k < T.length
    · rw [gT k hT hk] at hx
      rw [gV k (by omega) hk']; exact h.rt k hT _ hx
    · have : k = T.length := by simp at hk; omega
      subst this
      rw [eT hk] at hx
      rw [eV hk']; exact hr hx
theorem LvOk.root {req : Bm → List Bm} {roots : List Bm} {T : By} {V : List Nat} (h : LvOk req roots T 0 V) (h1 : ∀ k (hk : k < V.length), V[k] = 1) {m : Bm} (hm : m ∈ roots) : ∃ V', LvOk req roots (comeT T m m) 0 V' ∧ ∀ k (hk : k < V'.length), V'[k] = 1 := by
  cases hc : cameB T m with
  | true => rw [come_yes hc]; exact ⟨V, h, h1⟩
  | false =>
    rw [come_no hc]
    refine ⟨V ++ [1], h.push (.root hm) (Or.inl ⟨rfl, rfl⟩) (fun k hk => by rw [h1 k hk]; exact Nat.le_refl _) (fun hi => by omega) (Nat.zero_le _) (fun _ => by omega) (fun _ => rfl), fun k hk => ?_⟩
    by_cases hK : k < V.length
    · rw [List.getElem_append_left hK]; exact h1 k hK
    · have : k = V.length := by simp at hk; omega
      subst this; simp
theorem LvOk.reqs {req : Bm → List Bm} {roots : List Bm} {T : By} {i : Nat} {V : List Nat} (h : LvOk req roots T i V) (hi : i < T.length) (hall : ∀ m, m ∈ roots → m ∈ whoT T) {m : Bm} (hm : m ∈ req T[i].1) : ∃ V', LvOk req roots (comeT T m T[i].1) i V' := by
  have hiV : i < V.length := by rw [h.ln]; exact hi
  cases hc : cameB T m with
  | true => rw [come_yes hc]; exact ⟨V, h⟩
  | false =>
    rw [come_no hc]
    exact ⟨V ++ [V[i] + 1], h.push (.step (h.wn i hi hiV) hm) (Or.inr ⟨i, hi, rfl, rfl⟩) (fun k hk => h.nx k hk hiV) (fun _ => Nat.le_refl _) (Nat.le_of_lt hi) (fun e => by omega) (fun hr => absurd (hall m hr) (cameB_not hc))⟩
theorem LvOk.next {req : Bm → List Bm} {roots : List Bm} {T : By} {i : Nat} {V : List Nat} (h : LvOk req roots T i V) (hi : i < T.length) (hr : ∀ m, m ∈ req T[i].1 → m ∈ whoT T) : LvOk req roots T (i + 1) V := by
  have hiV : i < V.length := by rw [h.ln]; exact hi
  refine ⟨h.ln, h.wn, h.st, h.mo, fun k hk hi1 => ?_, fun j hj hj' hji m hm => ?_, h.rt⟩
  · exact Nat.le_trans (h.nx k hk hiV) (Nat.succ_le_succ (h.mo i (i + 1) hi1 (Nat.lt_succ_self i)))
  · rcases Nat.lt_or_ge j i with h1 | h1
    · exact h.pr j hj hj' h1 m hm
    · have : j = i := by omega
      subst this
      obtain ⟨k, hk, e⟩ := whoT_mem.1 (hr m hm)
      exact ⟨k, hk, by rw [h.ln]; exact hk, e, h.nx k (by rw [h.ln]; exact hk) hiV⟩
structure Came (req : Bm → List Bm) (U roots : List Bm) (T : By) : Prop where
  b : Bfs req U roots T T.length
  r : ∀ m, m ∈ roots → m ∈ whoT T
  l : ∃ V, LvOk req roots T T.length V
theorem Came.iff {req : Bm → List Bm} {U roots : List Bm} {T : By} (h : Came req U roots T) (m : Bm) : m ∈ whoT T ↔ Rch req roots m := by
  constructor
  · intro hm
    obtain ⟨k, hk, rfl⟩ := whoT_mem.1 hm
    exact h.b.only k k hk (Nat.le_refl _)
  · intro hm
    induction hm with
    | root hr => exact h.r _ hr
    | step _ hr ih =>
      obtain ⟨k, hk, rfl⟩ := whoT_mem.1 ih
      exact h.b.cl k hk hk _ hr
theorem Came.cameB {req : Bm → List Bm} {U roots : List Bm} {T : By} (h : Came req U roots T) (m : Bm) : Ve.cameB T m = true ↔ Rch req roots m := by
  rw [cameB_iff]
  exact h.iff m
inductive Wy (req : Bm → List Bm) (T : By) : Bm → Nat → List Bm → Prop
  | start {k : Nat} (h : k < T.length) : Wy req T T[k].1 k [T[k].1]
  | next {m : Bm} {k j : Nat} {Y : List Bm} : Wy req T m k Y → (hk : k < T.length) → (hj : j < k) → (T[j]'(Nat.lt_trans hj hk)).1 = T[k].2 → T[k].1 ∈ req T[k].2 → Wy req T m j ((T[j]'(Nat.lt_trans hj hk)).1 :: Y)
theorem Wy.pos {req : Bm → List Bm} {T : By} {m : Bm} {k : Nat} {Y : List Bm} (h : Wy req T m k Y) : 0 < Y.length := by
  cases h with
  | start h => simp
  | next h hk hj _ _ => simp
end Ve
end Go.Proofs.YtanponneancajaaGreatDoor


namespace Go.Proofs.YtanponneancajaaGreatDoor
open Go.RowKit Go.Maps
namespace Ve
theorem gLaidOut : laidOutB Tryz.prog = true := by kernel_rfl
theorem modRow : 51 < Tryz.prog.types.size := of_decide_eq_true (by kernel_rfl)
theorem modDeep : Tryz.prog.keyTypeAt 2 51 = true := by kernel_rfl
theorem modKeyT : Tryz.prog.keyType 51 = true := by kernel_rfl
theorem modKey : Keyed Tryz.prog 51 := Keyed.of_law (deep_law_laid gLaidOut (m := 2) (by omega) modRow modDeep (by kernel_rfl))
theorem gCellsMod : Tryz.prog.cellsOf 51 = 2 := by kernel_rfl
theorem gCellsStr : Tryz.prog.cellsOf 9 = 1 := by kernel_rfl
def modV (m : Bm) : Value := .agg #[.string m.1, .string m.2]
def kL (m : Bm) : Lit := .string (keyBytes [.string m.1.data.toList, .string m.2.data.toList])
theorem keyLits_mod (n : Nat) (m : Bm) (h1 : m.1.size ≤ maxLen) (h2 : m.2.size ≤ maxLen) : Tryz.prog.keyLits (n + 2) 51 [.string m.1, .string m.2] = some [.string m.1.data.toList, .string m.2.data.toList] := by
  unfold Program.keyLits
  rw [Tryz.underlying51]
  simp [gCellsMod, gCellsStr, Program.keyLits, Tryz.underlying9, h1, h2]
theorem keyOf_mod (m : Bm) (h1 : m.1.size ≤ maxLen) (h2 : m.2.size ≤ maxLen) : keyOf Tryz.prog 51 (modV m) = some (kL m) := by
  have hf : (modV m).formed Tryz.prog 51 = true := by
    simp [modV, Value.formed, Tryz.underlying51, gCellsMod]
  have hl : Tryz.prog.keyLits (Tryz.prog.types.size + 1) 51 (modV m).cells.toList = some [.string m.1.data.toList, .string m.2.data.toList] := by
    obtain ⟨n, hn⟩ : ∃ n, Tryz.prog.types.size + 1 = n + 2 := ⟨Tryz.prog.types.size - 1, by have := modRow; omega⟩
    rw [hn]
    exact keyLits_mod n m h1 h2
  unfold keyOf
  rw [Tryz.underlying51]
  simp only
  rw [if_pos (by rw [modKeyT, hf]; rfl), hl]
  rfl
theorem kL_inj {a b : Bm} (ha1 : a.1.size ≤ maxLen) (ha2 : a.2.size ≤ maxLen) (hb1 : b.1.size ≤ maxLen) (hb2 : b.2.size ≤ maxLen) (h : kL a = kL b) : a = b := by
  have h1 := keyOf_mod a ha1 ha2
  have h2 := keyOf_mod b hb1 hb2
  rw [h] at h1
  have := modKey.inj h1 h2
  simp only [modV, Value.agg.injEq, Array.mk.injEq, List.cons.injEq, Value.string.injEq, and_true] at this
  exact Prod.ext this.1 this.2
theorem kL_key (m : Bm) : WideAt.IsKeyLit (kL m) := trivial
def rB : Value → Option (DataW Bm × List MemPlace)
  | .agg cs => match cs.toList with
    | [.string a, .string b] => some (.held (a, b), [])
    | _ => none
  | _ => none
theorem rB_mod (m : Bm) : rB (modV m) = some (.held m, []) := rfl
theorem rB_inv {v : Value} {m : Bm} {ps : List MemPlace} (h : rB v = some (.held m, ps)) : v = modV m := by
  cases v with
  | agg cs =>
    simp only [rB] at h
    split at h
    · rename_i a b e
      simp only [Option.some.injEq, Prod.mk.injEq, DataW.held.injEq] at h
      obtain ⟨h1, _⟩ := h
      subst h1
      unfold modV
      congr 1
      exact Array.toList_inj.1 e
    · cases h
  | _ => cases h
def datB (T : By) : DataW Bm := T.foldl (fun D x => D.put (kL x.1) (.held x.2)) (.map [])
theorem datB_app (T : By) (m f : Bm) : datB (T ++ [(m, f)]) = (datB T).put (kL m) (.held f) := by simp [datB, List.foldl_append]
def szT (T : By) : Prop := ∀ x, x ∈ T → x.1.1.size ≤ maxLen ∧ x.1.2.size ≤ maxLen
theorem datB_has {m : Bm} (h1 : m.1.size ≤ maxLen) (h2 : m.2.size ≤ maxLen) : ∀ {T : By}, szT T → has (datB T) (kL m) = cameB T m := fun {T} hT => by
  suffices ∀ (T : By) (D : DataW Bm), IsMap D → szT T → has (T.foldl (fun D x => D.put (kL x.1) (.held x.2)) D) (kL m) = (has D (kL m) || cameB T m) by
    have := this T (.map []) isMap_empty hT
    unfold datB
    rw [this]
    simp [has_eq]
  intro T
  induction T with
  | nil => intro D _ _; simp [cameB]
  | cons x r ih =>
    intro D hD hs
    rw [List.foldl_cons, ih _ (hD.put _ _) (fun y hy => hs y (List.mem_cons_of_mem _ hy))]
    by_cases e : x.1 = m
    · subst e
      rw [has_put_same hD (kL_key _)]
      simp [cameB]
    · have hx := hs x (by simp)
      rw [has_put_other (fun he => e (kL_inj hx.1 hx.2 h1 h2 he.symm))]
      have : cameB (x :: r) m = cameB r m := by
        unfold cameB
        rw [List.any_cons, decide_eq_false (fun he => e (Prod.ext he.1 he.2)), Bool.false_or]
      rw [this]
theorem datB_held (T : By) (k : Lit) (z : Bm) : ∃ x, (datB T).atKey k (.held z) = .held x := by
  suffices ∀ (T : By) (D : DataW Bm), IsMap D → (∃ x, D.atKey k (.held z) = .held x) → ∃ x, (T.foldl (fun D x => D.put (kL x.1) (.held x.2)) D).atKey k (.held z) = .held x from this T _ isMap_empty ⟨z, rfl⟩
  intro T
  induction T with
  | nil => exact fun D _ h => h
  | cons x r ih =>
    intro D hD h
    refine ih _ (hD.put _ _) ?_
    by_cases e : k = kL x.1
    · subst e
      exact ⟨x.2, atKey_put_same hD (kL_key _) _ _⟩
    · rw [atKey_put_other e]
      exact h
def ByAt (w : World) (b : Nat) (T : By) : Prop := w.ownsMap Tryz.prog 51 rB b T.length (datB T)
theorem ByAt.below {w w' : World} {b : Nat} {T : By} (h : ByAt w b T) (hb : Below w.heap.size w w') : ByAt w' b T := by
  have hlt := World.ownsMap.lt h
  obtain ⟨es, clock, h1, F, hs, hD⟩ := h
  exact ⟨es, clock, (hb.block b hlt).trans h1, F, hs, hD⟩
theorem zeroMod (w : World) : (zeroValue 51).run Tryz.prog w = .ok (modV (⟨#[]⟩, ⟨#[]⟩)) w := Tryz.zeroValue51 w
set_option maxRecDepth 100000 in
set_option maxHeartbeats 1000000 in
theorem came_any (b : Nat) (T : By) (m : Bm) (w : World) (hm : m.1.size ≤ maxLen ∧ m.2.size ≤ maxLen) (hT : szT T) (h : ByAt w b T) :
    Calls Tryz.prog 168 #[.map (some b), .agg #[.string m.1, .string m.2]] w fun e w' => e = .returned (.bool (cameB T m)) ∧ Below w.heap.size w w' := by
  have HB := hid ((Below.refl w.heap.size w).alloc (Nat.le_refl _) (.cells #[.string m.1, .string m.2] 51))
  obtain ⟨v, ps, hrun, hv⟩ := World.ownsMap.look_ok (h.below HB.out) modKey Tryz.underlying179 (zeroMod _) (rB_mod _) (keyOf_mod m hm.1 hm.2)
  rw [datB_has hm.1 hm.2 hT] at hrun
  obtain ⟨x, hx⟩ := datB_held T (kL m) (⟨#[]⟩, ⟨#[]⟩)
  rw [hx] at hv
  obtain rfl := rB_inv hv
  unfold modV at hrun
  clear h hv hx hm hT
  go_enter Tryz.func168, Tryz.ntmps168
  go_wp2_with fail
  go_ret
  exact ⟨rfl, HB.out.alloc HB.out.size _⟩
end Ve
end Go.Proofs.YtanponneancajaaGreatDoor


namespace Go.Proofs.YtanponneancajaaGreatDoor
open Go.RowKit Go.Maps
namespace Ve
structure Wk (w0 W : World) (bb ob mb : Nat) (T : By) : Prop where
  bl : Below w0.heap.size w0 W
  sz : szT T
  b1 : w0.heap.size ≤ bb
  b2 : w0.heap.size ≤ ob
  b3 : w0.heap.size ≤ mb
  bc : W.heap[bb]? = some (.cells #[.map (some mb)] 179 (0, 0))
  mp : ByAt W mb T
  oc : ∃ ov, W.heap[ob]? = some (.cells #[ov] 52 (0, 0)) ∧ W.ownsRow w0.heap.size 51 2 ov T.length (flatM (whoT T))
theorem Wk.below {w0 W W' : World} {bb ob mb : Nat} {T : By} (h : Wk w0 W bb ob mb T) (hb : Below W.heap.size W W') : Wk w0 W' bb ob mb T := by
  obtain ⟨ov, h1, h2⟩ := h.oc
  exact ⟨h.bl.trans (hb.mono h.bl.size), h.sz, h.b1, h.b2, h.b3, (hb.block _ (lt_of_blk h.bc)).trans h.bc, h.mp.below hb, ov, (hb.block _ (lt_of_blk h1)).trans h1, owns_below h2 hb⟩
theorem flatM_who (T : By) (m f : Bm) : flatM (whoT (T ++ [(m, f)])) = flatM (whoT T) ++ [.string m.1, .string m.2] := by
  rw [whoT_app, flatM_app]; simp [flatM]
theorem ByAt.block {w : World} {b : Nat} {T : By} (h : ByAt w b T) : ∃ es clock, w.heap[b]? = some (.map es clock) := by
  obtain ⟨es, clock, h1, _⟩ := h
  exact ⟨es, clock, h1⟩
theorem ByAt.ne {w : World} {b g : Nat} {T : By} {cs : Array Value} {t : TypeId} {fr : Nat × Nat} (h : ByAt w b T) (hg : w.heap[g]? = some (.cells cs t fr)) : g ≠ b := fun e => by
  obtain ⟨es, clock, h1⟩ := h.block
  subst e
  rw [h1] at hg
  cases hg
theorem ByAt.far {w w2 : World} {b B n : Nat} {T : By} {v : Value} {e : TypeId} {xs : List Value} (h : ByAt w b T) (hg : w.grownBy w2 (some b)) (ho : w.ownsRow B e 2 v n xs) : w2.ownsRow B e 2 v n xs :=
  owns_far ho hg fun g hv => by
    obtain ⟨hl, ⟨h1, _⟩ | ⟨g', cap, cur, e1, e2, e3, _⟩⟩ := ho
    · rw [h1] at hv; cases hv
    · rw [e1] at hv
      have : g' = g := by simpa [Value.ownBlock] using hv
      subst this
      intro e
      exact h.ne e3 (by simpa using e.symm)
theorem Wk.more {w0 w1 w2 w3 : World} {bb ob mb : Nat} {T : By} {m f : Bm} {ov v' : Value} {o : Obj} (h : Wk w0 w1 bb ob mb T) (hm : m.1.size ≤ maxLen ∧ m.2.size ≤ maxLen) (o1 : w1.heap[ob]? = some (.cells #[ov] 52 (0, 0))) (o2 : w1.ownsRow w0.heap.size 51 2 ov T.length (flatM (whoT T)))
    (hown : w2.ownsMap Tryz.prog 51 rB mb (T.length + 1) ((datB T).put (kL m) (.held f))) (hg : w1.grownBy w2 (some mb)) (hown3 : w3.ownsRow w0.heap.size 51 2 v' (T.length + 1) (flatM (whoT T) ++ [.string m.1, .string m.2])) (hg3 : (w2.alloc o).grownBy w3 ov.ownBlock) :
    Wk w0 (w3.setCell ⟨ob, 0, none⟩ v') bb ob mb (T ++ [(m, f)]) := by
  have hs1 := h.bl.size
  have l1 := lt_of_blk h.bc
  have l2 := lt_of_blk o1
  obtain ⟨es, clock, hm1⟩ := ByAt.block h.mp
  have l3 := lt_of_blk hm1
  have n1 : bb ≠ mb := h.mp.ne h.bc
  have n2 : ob ≠ mb := h.mp.ne o1
  have n3 : bb ≠ ob := fun e => by
    subst e
    have := h.bc.symm.trans o1
    simp at this
  have o2' := h.mp.far hg o2
  have r1 : ov.ownBlock ≠ some bb := own_ne2 o2 h.bc (by decide)
  have r2 : ov.ownBlock ≠ some ob := own_ne2 o2 o1 (by decide)
  have r3 : ov.ownBlock ≠ some mb := fun e => by
    obtain ⟨hl, ⟨h1, _⟩ | ⟨g', cap, cur, e1, e2, e3, _⟩⟩ := o2
    · rw [h1] at e; cases e
    · rw [e1] at e
      have : g' = mb := by simpa [Value.ownBlock] using e
      exact h.mp.ne e3 this
  have sz2 := hg.size
  have step : ∀ b, b < w1.heap.size → b ≠ mb → ov.ownBlock ≠ some b → w3.heap[b]? = w1.heap[b]? := fun b hb hne hr => by
    rw [hg3.block b (by simp; omega) (fun e => hr e.symm), ((Below.refl w2.heap.size w2).alloc (Nat.le_refl _) o).block b (by omega), hg.block b hb (by simp [hne])]
  have q1 := (step bb l1 n1 r1).trans h.bc
  have q2 := (step ob l2 n2 r2).trans o1
  have q3 : w3.heap[mb]? = w2.heap[mb]? := by
    rw [hg3.block mb (by simp; omega) (fun e => r3 e.symm), ((Below.refl w2.heap.size w2).alloc (Nat.le_refl _) o).block mb (by omega)]
  have b2 : Below w0.heap.size w0 w2 := h.bl.grown hg hs1 (fun k hk => by cases hk; exact h.b3)
  have b3 : Below w0.heap.size w0 w3 := (b2.alloc b2.size o).grown hg3 (by simp; have := b2.size; omega) (fun k hk => (o2.lt k hk).1)
  refine ⟨b3.setCell (p := ⟨ob, 0, none⟩) h.b2 v', ?_, h.b1, h.b2, h.b3, keep_set q1 n3, ?_, v', ?_, ?_⟩
  · intro x hx
    rcases List.mem_append.1 hx with hx | hx
    · exact h.sz x hx
    · simp at hx; subst hx; exact hm
  · unfold ByAt
    rw [datB_app, List.length_append]
    obtain ⟨es2, clock2, h1, F, hs, hD⟩ := hown
    exact ⟨es2, clock2, by rw [Below.heap_setCell _ _ _ _ (Ne.symm n2), q3]; exact h1, F, hs, hD⟩
  · have := set_block (o := 0) (x := v') q2
    simpa using this
  · rw [flatM_who, List.length_append]
    exact owns_set hown3 (own_ne2 hown3 q2 (by decide))
set_option maxRecDepth 100000 in
set_option maxHeartbeats 2000000 in
theorem come_any (w0 W : World) (bb ob mb : Nat) (T : By) (m f : Bm) (hm : m.1.size ≤ maxLen ∧ m.2.size ≤ maxLen) (hl : T.length ≤ 1000) (h : Wk w0 W bb ob mb T) :
    Calls Tryz.prog 214 #[.agg #[.string m.1, .string m.2], .agg #[.string f.1, .string f.2], .pointer (some ⟨bb, 0, none⟩), .pointer (some ⟨ob, 0, none⟩)] W fun e w' => e = .returned (.tuple #[]) ∧ Wk w0 w' bb ob mb (comeT T m f) := by
  obtain ⟨i0, hi0, hz0, hz1, hz2⟩ := info_parts infoMod
  have HBa := hid (((Below.refl W.heap.size W).alloc (Nat.le_refl _) (.cells #[.string m.1, .string m.2] 51)).alloc (by simp) (.cells #[.string f.1, .string f.2] 51))
  have HW := hid (h.below HBa.out)
  have HC := hid (came_any mb T m _ hm HW.out.sz HW.out.mp)
  have c0 : ((W.alloc (.cells #[.string m.1, .string m.2] 51)).alloc (.cells #[.string f.1, .string f.2] 51)).cell? ⟨bb, 0, none⟩ = some (.map (some mb)) := by rw [Lib.cell_of_heap HW.out.bc]; rfl
  have HM := hid hm
  clear h hm
  go_enter Tryz.func214, Tryz.ntmps214
  go_wp2_with fail
  refine HC.out.mono ?_
  rintro e w1 ⟨rfl, hb⟩
  have HW1 := hid (HW.out.below hb)
  have e0 : w1.heap[W.heap.size]? = some (.cells #[.string m.1, .string m.2] 51 (0, 0)) := by
    rw [hb.block _ (by simp; omega)]; exact heap_old _ _ (heap_new W _)
  have e1 : w1.heap[W.heap.size + 1]? = some (.cells #[.string f.1, .string f.2] 51 (0, 0)) := by
    rw [hb.block _ (by simp)]
    have := heap_new (W.alloc (.cells #[.string m.1, .string m.2] 51)) (.cells #[.string f.1, .string f.2] 51)
    rw [show (W.alloc (.cells #[.string m.1, .string m.2] 51)).heap.size = W.heap.size + 1 by simp] at this
    exact this
  clear hb
  cases hc : cameB T m with
  | true =>
    go_wp2_with fail
    go_end0
    exact ⟨rfl, by rw [come_yes hc]; exact HW1.out⟩
  | false =>
    have HCN := hid hc
    obtain ⟨ov, o1, o2⟩ := HW1.out.oc
    have HO1 := hid o1
    have HO2 := hid o2
    have k0 : w1.cell? ⟨bb, 0, none⟩ = some (.map (some mb)) := by rw [Lib.cell_of_heap HW1.out.bc]; rfl
    have k1 : w1.cell? ⟨W.heap.size, 0, none⟩ = some (.string m.1) := by rw [Lib.cell_of_heap e0]; rfl
    have k2 : w1.cell? ⟨W.heap.size, 1, none⟩ = some (.string m.2) := by rw [Lib.cell_of_heap e0]; rfl
    have k3 : w1.cell? ⟨W.heap.size + 1, 0, none⟩ = some (.string f.1) := by rw [Lib.cell_of_heap e1]; rfl
    have k4 : w1.cell? ⟨W.heap.size + 1, 1, none⟩ = some (.string f.2) := by rw [Lib.cell_of_heap e1]; rfl
    have HE0 := hid e0
    clear o1 o2 e0 e1 hc c0
    go_wp2_with (at_mapUpdate; refine wpList_mapUpdate_own _ rfl _ _ _ 179 rfl 51 51 modKey Tryz.underlying179 rB mb T.length (datB T) rfl HW1.out.mp (by unfold maxLen; omega) (modV m) (modV f) (kL m) rfl rfl (keyOf_mod m HM.out.1 HM.out.2) (.held f) [] (rB_mod f) ?_)
    intro w2 hown hgrow
    have HOWN := hid hown
    have HGR := hid hgrow
    have n1 := HW1.out.mp.ne HE0.out
    have n2 := HW1.out.mp.ne HO1.out
    have j0 : w2.heap[W.heap.size]? = some (.cells #[.string m.1, .string m.2] 51 (0, 0)) := (hgrow.block _ (lt_of_blk HE0.out) (by simp [n1])).trans HE0.out
    have j1 : w2.heap[ob]? = some (.cells #[ov] 52 (0, 0)) := (hgrow.block _ (lt_of_blk HO1.out) (by simp [n2])).trans HO1.out
    have HOV := hid (HW1.out.mp.far hgrow HO2.out)
    obtain ⟨oa, oc, hov⟩ := own_slN HO2.out
    subst hov
    have i1 : w2.cell? ⟨W.heap.size, 0, none⟩ = some (.string m.1) := by rw [Lib.cell_of_heap j0]; rfl
    have i2 : w2.cell? ⟨W.heap.size, 1, none⟩ = some (.string m.2) := by rw [Lib.cell_of_heap j0]; rfl
    have i3 : w2.cell? ⟨ob, 0, none⟩ = some (.slice oa T.length oc) := by rw [Lib.cell_of_heap j1]; rfl
    have HJ1 := hid j1
    have HNE := hid (own_ne2 HOV.out j1 (by decide))
    have hsz := HW1.out.bl.size
    have hsz2 := hgrow.size
    clear hown hgrow j0 j1 k0 k1 k2 k3 k4 n1 n2
    go_wp2_with (at_builtin; refine wpList_append_own _ rfl _ _ 52 rfl w0.heap.size 51 i0 _ 2 32 Tryz.underlying52 hi0 hz0 hz1 hz2 rfl (by decide) _ _ _ rfl (HOV.out.alloc _) ⟨w2.heap.size, 0, none⟩ 1 1 [.string m.1, .string m.2] rfl rfl ?c1 ?c2 ?c3 ?c4 ?c5 ?_)
    case c1 => exact World.news_of_block (cs := #[.string m.1, .string m.2]) (t := 51) (fr := (0, 0)) (heap_alloc_new w2 _)
    case c2 =>
      intro u hu
      simp at hu
      rcases hu with rfl | rfl <;> rfl
    case c3 => unfold maxLen; omega
    case c4 => omega
    case c5 => simp; omega
    intro v' w3 hown3 hgrow3 _
    have HF := hid (HW1.out.more HM.out HO1.out HO2.out HOWN.out HGR.out hown3 hgrow3)
    have q2 : w3.heap[ob]? = some (.cells #[.slice oa T.length oc] 52 (0, 0)) := by
      rw [hgrow3.block ob (by have := lt_of_blk HJ1.out; simp; omega) (fun e => HNE.out e.symm), ((Below.refl w2.heap.size w2).alloc (Nat.le_refl _) _).block ob (lt_of_blk HJ1.out)]
      exact HJ1.out
    have i4 : w3.cell? ⟨ob, 0, none⟩ = some (.slice oa T.length oc) := by rw [Lib.cell_of_heap q2]; rfl
    have i5 : w3.frozen? ⟨ob, 0, none⟩ = false := by simp [World.frozen?, q2]
    obtain ⟨va, vc, hv⟩ := own_slN hown3
    subst hv
    clear hown3 hgrow3 q2 i1 i2 i3
    go_wp2_with fail
    go_end0
    exact ⟨rfl, by rw [come_no HCN.out]; exact HF.out⟩
end Ve
end Go.Proofs.YtanponneancajaaGreatDoor


namespace Go.Proofs.YtanponneancajaaGreatDoor
open Go.RowKit Go.Maps
namespace Ve
def univ (L : List Ent) : List Bm := L.map fun e => e.1
theorem univ_len (L : List Ent) : (univ L).length = L.length := by simp [univ]
def reqQ (Q : List Raw) (L : List Ent) (m : Bm) : List Bm := if idxOf (isM m) Q < 0 then [] else ((L[(idxOf (isM m) Q).toNat]?).map fun e => e.2.1).getD []
theorem ixs_get {w : World} {v : Value} {Q : List Raw} {L : List Ent} (I : Ixs w v Q L) {j : Nat} (hj : j < Q.length) : ∃ hj' : j < L.length, Q[j].1 = L[j].1 := by
  have hj' : j < L.length := by rw [← I.ln]; exact hj
  exact ⟨hj', (I.ok j hj hj').m⟩
theorem isM_iff {m : Bm} {r : Raw} : isM m r = true ↔ r.1 = m := by
  unfold isM
  constructor
  · intro h; have h2 := of_decide_eq_true h; exact Prod.ext h2.1 h2.2
  · intro h; exact decide_eq_true (by rw [h]; exact ⟨rfl, rfl⟩)
theorem idx_nat (P : Raw → Bool) (Q : List Raw) : idxOf P Q = -1 ∨ ∃ k : Nat, idxOf P Q = (k : Int) := by
  unfold idxOf
  cases fstE (idxE P Q) Q.length with
  | none => exact Or.inl rfl
  | some k => exact Or.inr ⟨k, rfl⟩
theorem idx_none {P : Raw → Bool} {Q : List Raw} (h : idxOf P Q = -1) : ∀ r, r ∈ Q → P r = false := fun r hr => by
  obtain ⟨j, hj, rfl⟩ := List.getElem_of_mem hr
  unfold idxOf at h
  cases h1 : fstE (idxE P Q) Q.length with
  | some k => rw [h1] at h; simp only at h; omega
  | none =>
    have := fstE_of_none h1 j hj
    rw [idxE_at hj] at this
    cases hp : P Q[j] with
    | false => rfl
    | true => rw [hp] at this; simp at this
theorem found_iff {w : World} {v : Value} {Q : List Raw} {L : List Ent} (I : Ixs w v Q L) (m : Bm) : m ∈ univ L ↔ ∃ k : Nat, idxOf (isM m) Q = (k : Int) := by
  constructor
  · intro h
    rcases idx_nat (isM m) Q with h1 | h1
    · obtain ⟨e, he, rfl⟩ := List.mem_map.1 h
      obtain ⟨j, hj, rfl⟩ := List.getElem_of_mem he
      have hj2 : j < Q.length := by rw [I.ln]; exact hj
      have := idx_none h1 Q[j] (List.getElem_mem hj2)
      rw [isM_iff.2 (I.ok j hj2 hj).m] at this
      cases this
    · exact h1
  · rintro ⟨k, h⟩
    obtain ⟨hk, h1⟩ := idx_is h
    obtain ⟨hk', h2⟩ := ixs_get I hk
    exact List.mem_map.2 ⟨L[k], List.getElem_mem hk', by rw [← h2]; exact isM_iff.1 h1⟩
theorem reqQ_at {Q : List Raw} {L : List Ent} {m : Bm} {k : Nat} (h : idxOf (isM m) Q = (k : Int)) (hk : k < L.length) : reqQ Q L m = L[k].2.1 := by
  unfold reqQ
  rw [h, if_neg (by omega), Int.toNat_natCast, List.getElem?_eq_getElem hk]
  rfl
set_option maxRecDepth 100000 in
set_option maxHeartbeats 2000000 in
theorem walk_any (Q : List Raw) (L : List Ent) (roots : List Bm) (v rv : Value) (w : World) (hn : L.length ≤ 1000) (hrn : roots.length ≤ 1000000) (I : Ixs w v Q L) (hr : MsAt w rv roots) (hz : ∀ m, m ∈ univ L → m.1.size ≤ maxLen ∧ m.2.size ≤ maxLen) (hrl : ∀ e, e ∈ L → e.2.1.length ≤ 1000000)
    (hru : ∀ m, m ∈ roots → m ∈ univ L) (hlu : ∀ m, m ∈ univ L → ∀ x, x ∈ reqQ Q L m → x ∈ univ L) :
    Calls Tryz.prog 167 #[v, rv] w fun e w' => ∃ b, e = .returned (.map (some b)) ∧ ∃ T, ByAt w' b T ∧ szT T ∧ Came (reqQ Q L) (univ L) roots T ∧ Below w.heap.size w w' := by
  obtain ⟨a, c, hv, -⟩ := id I.es
  subst hv
  obtain ⟨ra, rc, hrv, -⟩ := id hr
  subst hrv
  have HI := hid I
  have HR := hid hr
  have HZ := hid hz
  have HRL := hid hrl
  have HRU := hid hru
  have HLU := hid hlu
  have eg : ∀ args w, (callFunc 214 args).run Tryz.prog w = .ok (.enter 214 args) w := enters_of Tryz.func214 (by kernel_rfl) rfl
  have hmk : ∀ W : World, (Instr.makeMap 179 none).run Tryz.prog W = .ok (.map (some W.heap.size)) (W.alloc (.map #[] 0)) := fun W => run_makeMap 179 W
  clear I hr hz hrl hru hlu
  go_enter Tryz.func167, Tryz.ntmps167
  go_wp2_with fail
  have HW0 := hid (show Wk w (((w.alloc (.map #[] 0)).alloc (.cells #[.map (some w.heap.size)] 179)).alloc (.cells #[.slice none 0 0] 52)) (w.heap.size + 1) (w.heap.size + 1 + 1) w.heap.size [] by
    have b1 := (Below.refl w.heap.size w).alloc (Nat.le_refl _) (.map #[] 0)
    have b2 := b1.alloc (by simp) (.cells #[.map (some w.heap.size)] 179)
    have b3 := b2.alloc (by simp; omega) (.cells #[.slice none 0 0] 52)
    have c1 := (Below.refl (w.alloc (.map #[] 0)).heap.size (w.alloc (.map #[] 0))).alloc (Nat.le_refl _) (.cells #[.map (some w.heap.size)] 179)
    have c2 := (Below.refl ((w.alloc (.map #[] 0)).alloc (.cells #[.map (some w.heap.size)] 179)).heap.size ((w.alloc (.map #[] 0)).alloc (.cells #[.map (some w.heap.size)] 179))).alloc (Nat.le_refl _) (.cells #[.slice none 0 0] 52)
    have m0 : ByAt (w.alloc (.map #[] 0)) w.heap.size [] := World.ownsMap_made w Tryz.prog 51 rB
    have h1 := heap_new (w.alloc (.map #[] 0)) (.cells #[.map (some w.heap.size)] 179)
    have h2 := heap_new ((w.alloc (.map #[] 0)).alloc (.cells #[.map (some w.heap.size)] 179)) (.cells #[.slice none 0 0] 52)
    have s1 : (w.alloc (.map #[] 0)).heap.size = w.heap.size + 1 := by simp
    have s2 : ((w.alloc (.map #[] 0)).alloc (.cells #[.map (some w.heap.size)] 179)).heap.size = w.heap.size + 1 + 1 := by simp
    rw [s1] at h1
    rw [s2] at h2
    exact ⟨b3, fun x hx => (by cases hx), by omega, by omega, by omega, heap_old _ _ h1, (m0.below c1).below c2, _, h2, World.ownsRow_nil _ _ _ _⟩)
  generalize hW0 : ((w.alloc (.map #[] 0)).alloc (.cells #[.map (some w.heap.size)] 179)).alloc (.cells #[.slice none 0 0] 52) = W0 at *
  clear hW0
  go_loopw [17] (fun iv wr => ∃ k : Nat, k ≤ roots.length ∧ iv = .int .i64 k ∧ Hid (∃ T, Wk w wr (w.heap.size + 1) (w.heap.size + 1 + 1) w.heap.size T ∧ Bfs (reqQ Q L) (univ L) roots T 0 ∧ (∀ m, m ∈ roots.take k → m ∈ whoT T) ∧ ∃ V, LvOk (reqQ Q L) roots T 0 V ∧ ∀ k (hk : k < V.length), V[k] = 1)) (fun i _ => roots.length - (intOf i).toNat)
  case atStart => exact ⟨0, Nat.zero_le _, rfl, hid ⟨[], HW0.out, Bfs.none _ _ _, fun m hm => by simp at hm, [], LvOk.none _ _, fun _ h => absurd h (Nat.not_lt_zero _)⟩⟩
  case round =>
    obtain ⟨k, hk, rfl, HT⟩ := hrel
    by_cases hlt : k < roots.length
    · obtain ⟨T, hT⟩ := HT.out
      have HTT := hid hT
      have HRM := hid (HR.out.below hT.1.bl)
      obtain ⟨rb, ro, hra, hcc⟩ := HRM.out.cells hlt
      subst hra
      have x0 := hcc.1
      have x1 := hcc.2
      have HMU := hid (HRU.out roots[k] (List.getElem_mem hlt))
      have HMR := hid (List.getElem_mem hlt)
      have HTK := hid (show ∀ x, x ∈ roots.take (k + 1) → x ∈ roots.take k ∨ x = roots[k] from fun x hx => by
        rw [List.take_succ_eq_append_getElem hlt] at hx
        rcases List.mem_append.1 hx with h | h
        · exact Or.inl h
        · exact Or.inr (List.mem_singleton.1 h))
      have HLT := hid hlt
      have hkI : (k : Int) < (roots.length : Int) := by omega
      clear hT hcc
      generalize roots[k] = m at *
      clear hlt
      have HBa := hid ((Below.refl wr.heap.size wr).alloc (Nat.le_refl _) (.cells #[.string m.1, .string m.2] 51))
      have HCO := hid (come_any w _ (w.heap.size + 1) (w.heap.size + 1 + 1) w.heap.size T m m (HZ.out m HMU.out) (by have := HTT.out.2.1.len; rw [univ_len] at this; omega) (HTT.out.1.below HBa.out))
      go_wp2_with fail
      refine HCO.out.mono ?_
      rintro e w1 ⟨rfl, hk1⟩
      have HN := hid (show ∃ T, Wk w w1 (w.heap.size + 1) (w.heap.size + 1 + 1) w.heap.size T ∧ Bfs (reqQ Q L) (univ L) roots T 0 ∧ (∀ m, m ∈ roots.take (k + 1) → m ∈ whoT T) ∧ ∃ V, LvOk (reqQ Q L) roots T 0 V ∧ ∀ k (hk : k < V.length), V[k] = 1 from
        ⟨_, hk1, HTT.out.2.1.come HMU.out (Or.inl ⟨rfl, HMR.out⟩), fun x hx => by
          rcases HTK.out x hx with h | rfl
          · exact come_sub (HTT.out.2.2.1 x h)
          · exact come_mem _ _ _, by
          obtain ⟨V, h1, h2⟩ := HTT.out.2.2.2
          exact h1.root h2 HMR.out⟩)
      clear hk1
      go_wp2_with fail
      go_roundw
      case rel => exact ⟨k + 1, HLT.out, nr_idx k, HN⟩
      case measure => exact nr_meas HLT.out
    · have HALL := hid (show ∃ T, Wk w wr (w.heap.size + 1) (w.heap.size + 1 + 1) w.heap.size T ∧ Bfs (reqQ Q L) (univ L) roots T 0 ∧ (∀ m, m ∈ roots → m ∈ whoT T) ∧ ∃ V, LvOk (reqQ Q L) roots T 0 V by
        have := HT.out
        rw [List.take_of_length_le (by omega)] at this
        obtain ⟨T, h1, h2, h3, V, h4, _⟩ := this
        exact ⟨T, h1, h2, h3, V, h4⟩)
      have hkI : ¬ (k : Int) < (roots.length : Int) := by omega
      clear HT hlt
      go_wp2_with fail
      go_loopw [10] (fun iv wr => ∃ i : Nat, iv = .int .i64 i ∧ Hid (∃ T, Wk w wr (w.heap.size + 1) (w.heap.size + 1 + 1) w.heap.size T ∧ Bfs (reqQ Q L) (univ L) roots T i ∧ (∀ m, m ∈ roots → m ∈ whoT T) ∧ ∃ V, LvOk (reqQ Q L) roots T i V)) (fun i _ => L.length - (intOf i).toNat)
      case atStart => exact ⟨0, rfl, HALL⟩
      case round =>
        obtain ⟨i, rfl, HA⟩ := hrel
        obtain ⟨T, hT⟩ := HA.out
        have HTT := hid hT
        obtain ⟨ov, o1, o2⟩ := hT.1.oc
        have hTl : T.length ≤ L.length := by have := hT.2.1.len; rw [univ_len] at this; exact this
        obtain ⟨oa, oc, hov⟩ := own_slN o2
        subst hov
        have z0 : wr.cell? ⟨w.heap.size + 1 + 1, 0, none⟩ = some (.slice oa T.length oc) := by rw [Lib.cell_of_heap o1]; rfl
        have HO2 := hid o2
        clear hT o1 o2 HA
        by_cases hlt : i < T.length
        · have hiI : (i : Int) < (T.length : Int) := by omega
          obtain ⟨b1, o1, hoa, yy0, yy1⟩ := (own_ms (L := whoT T) (by rw [whoT_len]; exact HO2.out)).cells (k := i) (by rw [whoT_len]; exact hlt)
          subst hoa
          rw [whoT_get hlt] at yy0 yy1
          have HLT := hid hlt
          have HOU := hid (HTT.out.2.1.un T[i].1 (whoT_mem.2 ⟨i, hlt, rfl⟩))
          have HOM := hid (show T[i].1 ∈ whoT T from whoT_mem.2 ⟨i, hlt, rfl⟩)
          obtain ⟨o, ho, y0, y1, hou, hom⟩ : ∃ o, T[i].1 = o ∧ wr.cell? ⟨b1, o1 + i * 2, none⟩ = some (.string o.1) ∧ wr.cell? ⟨b1, o1 + i * 2 + 1, none⟩ = some (.string o.2) ∧ o ∈ univ L ∧ o ∈ whoT T := ⟨_, rfl, yy0, yy1, HOU.out, HOM.out⟩
          clear yy0 yy1 HOU HOM
          have HOU := hid hou
          have HOM := hid hom
          have HOI := hid (show ∃ h : i < T.length, (T[i]'h).1 = o from ⟨hlt, ho⟩)
          clear hou hom
          obtain ⟨kq, hkq⟩ := (found_iff HI.out o).1 HOU.out
          obtain ⟨hkl, -⟩ := idx_is hkq
          have hkl2 : kq < L.length := by rw [← HI.out.ln]; exact hkl
          have HFI := hid (find_any Q o (.slice a Q.length c) wr (by rw [HI.out.ln]; omega) (HI.out.below HTT.out.1.bl).es)
          rw [hkq] at HFI
          have HRQ := hid (reqQ_at hkq hkl2)
          have hkI : (kq : Int) < (Q.length : Int) := by omega
          have hk0 : (0 : Int) ≤ (kq : Int) := by omega
          have HES := hid (fun W (h : Below w.heap.size w W) => es_cells (HI.out.below h).es hkl)
          have HMS := hid (fun W (h : Below w.heap.size w W) => ((HI.out.below h).ok kq hkl hkl2).rq)
          have hrl2 := HRL.out L[kq] (List.getElem_mem hkl2)
          generalize (L[kq]'hkl2).2.1 = R at *
          generalize (Q[kq]'hkl).2.1 = qv at *
          obtain ⟨qa, qc, hqv, -⟩ := HMS.out w (Below.refl _ _)
          subst hqv
          clear hkq hkl hkl2 ho hlt
          go_wp2_with fail
          refine HFI.out.mono ?_
          rintro e w1 ⟨rfl, hb⟩
          have HW1 := hid (HTT.out.1.below hb)
          obtain ⟨eb, eo, ha, x2⟩ := HES.out w1 HW1.out.bl
          subst ha
          clear hb HFI
          go_wp2_with fail
          have HMS1 := hid (HMS.out w1 HW1.out.bl)
          have HST := hid (show ∃ T', Wk w w1 (w.heap.size + 1) (w.heap.size + 1 + 1) w.heap.size T' ∧ Bfs (reqQ Q L) (univ L) roots T' i ∧ (∀ m, m ∈ roots → m ∈ whoT T') ∧ (∃ h : i < T'.length, (T'[i]'h).1 = o) ∧ (∀ m, m ∈ R.take 0 → m ∈ whoT T') ∧ ∃ V, LvOk (reqQ Q L) roots T' i V from
            ⟨T, HW1.out, HTT.out.2.1, HTT.out.2.2.1, HOI.out, fun m hm => by simp at hm, HTT.out.2.2.2⟩)
          clear HW1 HTT x2 y0 y1 z0
          go_loopw [43] (fun iv wr => ∃ k : Nat, k ≤ R.length ∧ iv = .int .i64 k ∧ Hid (∃ T', Wk w wr (w.heap.size + 1) (w.heap.size + 1 + 1) w.heap.size T' ∧ Bfs (reqQ Q L) (univ L) roots T' i ∧ (∀ m, m ∈ roots → m ∈ whoT T') ∧ (∃ h : i < T'.length, (T'[i]'h).1 = o) ∧ (∀ m, m ∈ R.take k → m ∈ whoT T') ∧ ∃ V, LvOk (reqQ Q L) roots T' i V)) (fun i _ => R.length - (intOf i).toNat)
          case atStart => exact ⟨0, Nat.zero_le _, rfl, HST⟩
          case round =>
            obtain ⟨k2, hk2, rfl, HS2⟩ := hrel
            by_cases hlt : k2 < R.length
            · obtain ⟨T2, hT2⟩ := HS2.out
              have HT2 := hid hT2
              obtain ⟨qb, qo, hqa, xx0, xx1⟩ := (HMS.out wr hT2.1.bl).cells hlt
              subst hqa
              have HMR := hid (show R[k2] ∈ reqQ Q L o by rw [HRQ.out]; exact List.getElem_mem hlt)
              have HTK := hid (show ∀ x, x ∈ R.take (k2 + 1) → x ∈ R.take k2 ∨ x = R[k2] from fun x hx => by
                rw [List.take_succ_eq_append_getElem hlt] at hx
                rcases List.mem_append.1 hx with h | h
                · exact Or.inl h
                · exact Or.inr (List.mem_singleton.1 h))
              have HLT2 := hid hlt
              have hkI2 : (k2 : Int) < (R.length : Int) := by omega
              obtain ⟨m, hm, x0, x1, hmr, htk⟩ : ∃ m, R[k2] = m ∧ wr.cell? ⟨qb, qo + k2 * 2, none⟩ = some (.string m.1) ∧ wr.cell? ⟨qb, qo + k2 * 2 + 1, none⟩ = some (.string m.2) ∧ m ∈ reqQ Q L o ∧ ∀ x, x ∈ R.take (k2 + 1) → x ∈ R.take k2 ∨ x = m := ⟨_, rfl, xx0, xx1, HMR.out, HTK.out⟩
              clear HMR HTK xx0 xx1
              have HMR := hid hmr
              have HTK := hid htk
              have HMU := hid (HLU.out o HOU.out m hmr)
              obtain ⟨hi2, ho2⟩ := hT2.2.2.2.1
              have HFO := hid (show o ∈ whoT T2 from whoT_mem.2 ⟨i, hi2, ho2⟩)
              obtain ⟨ov, o1, o2⟩ := hT2.1.oc
              obtain ⟨oa2, oc2, hov⟩ := own_slN o2
              subst hov
              have hBa := (Below.refl wr.heap.size wr).alloc (Nat.le_refl _) (.cells #[.string m.1, .string m.2] 51)
              obtain ⟨b3, o3, hoa, w0, w1'⟩ := (own_ms (L := whoT T2) (by rw [whoT_len]; exact o2)).cells (k := i) (by rw [whoT_len]; exact hi2)
              subst hoa
              rw [whoT_get hi2] at w0 w1'
              have hiI2 : (i : Int) < (T2.length : Int) := by omega
              have hi00 : (0 : Int) ≤ (i : Int) := by omega
              obtain ⟨q0, q1⟩ : (wr.alloc (.cells #[.string m.1, .string m.2] 51)).cell? ⟨b3, o3 + i * 2, none⟩ = some (.string o.1) ∧ (wr.alloc (.cells #[.string m.1, .string m.2] 51)).cell? ⟨b3, o3 + i * 2 + 1, none⟩ = some (.string o.2) := ⟨cell_below hBa (by rw [← ho2]; exact w0), cell_below hBa (by rw [← ho2]; exact w1')⟩
              have q2 : (wr.alloc (.cells #[.string m.1, .string m.2] 51)).cell? ⟨w.heap.size + 1 + 1, 0, none⟩ = some (.slice (some ⟨b3, o3, none⟩) T2.length oc2) := cell_below hBa (by rw [Lib.cell_of_heap o1]; rfl)
              have HCO := hid (fun W (h : Wk w W (w.heap.size + 1) (w.heap.size + 1 + 1) w.heap.size T2) => come_any w W (w.heap.size + 1) (w.heap.size + 1 + 1) w.heap.size T2 m o (HZ.out m HMU.out) (by have := HT2.out.2.1.len; rw [univ_len] at this; omega) h)
              have HWB := hid (hT2.1.below hBa)
              clear hT2 hm hmr htk o1 o2 w0 w1' hBa
              clear ho2 hi2 hlt
              go_upto_region 15 with fail
              go_region_with (go_at_call 214; refine (HCO.out _ (HWB.out.below (below_drawn _ 1))).mono ?_; rintro e w4 ⟨rfl, hk4⟩; have HK4 := hid hk4; clear hk4)
              all_goals
                have HNX := hid (show ∃ T', Wk w w4 (w.heap.size + 1) (w.heap.size + 1 + 1) w.heap.size T' ∧ Bfs (reqQ Q L) (univ L) roots T' i ∧ (∀ m, m ∈ roots → m ∈ whoT T') ∧ (∃ h : i < T'.length, (T'[i]'h).1 = o) ∧ (∀ m, m ∈ R.take (k2 + 1) → m ∈ whoT T') ∧ ∃ V, LvOk (reqQ Q L) roots T' i V from by
                  obtain ⟨h1, h2, h3, ⟨h4, h5⟩, h6, V, h7⟩ := HT2.out
                  refine ⟨_, HK4.out, h2.come HMU.out (Or.inr ⟨HFO.out, HMR.out⟩), fun x hx => come_sub (h3 x hx), ?_, fun x hx => ?_, by rw [← h5]; exact h7.reqs h4 h3 (by rw [h5]; exact HMR.out)⟩
                  · obtain ⟨E, hE⟩ := come_old T2 m o
                    rw [hE]
                    exact ⟨by simp; omega, by rw [List.getElem_append_left h4]; exact h5⟩
                  · rcases HTK.out x hx with h | rfl
                    · exact come_sub (h6 x h)
                    · exact come_mem _ _ _)
                go_wp2_with fail
                go_roundw
                case rel => exact ⟨k2 + 1, HLT2.out, nr_idx k2, HNX⟩
                case measure => exact nr_meas HLT2.out
            · have HSE := hid (show ∃ T', Wk w wr (w.heap.size + 1) (w.heap.size + 1 + 1) w.heap.size T' ∧ Bfs (reqQ Q L) (univ L) roots T' (i + 1) ∧ (∀ m, m ∈ roots → m ∈ whoT T') ∧ ∃ V, LvOk (reqQ Q L) roots T' (i + 1) V by
                obtain ⟨T', h1, h2, h3, ⟨h4, h5⟩, h6, V, h7⟩ := HS2.out
                rw [List.take_of_length_le (by omega)] at h6
                exact ⟨T', h1, h2.next h4 (by rw [h5, HRQ.out]; exact h6), h3, V, h7.next h4 (by rw [h5, HRQ.out]; exact h6)⟩)
              have hkI2 : ¬ (k2 : Int) < (R.length : Int) := by omega
              have HIL := hid (show i < L.length by
                obtain ⟨T', h1, h2, h3, ⟨h4, h5⟩, h6⟩ := HS2.out
                have := h2.len
                rw [univ_len] at this
                omega)
              clear HS2 hlt
              go_wp2_with fail
              go_roundw
              case rel => exact ⟨i + 1, nr_idx i, HSE⟩
              case measure => exact nr_meas HIL.out
        · have hiI : ¬ (i : Int) < (T.length : Int) := by omega
          have HTE := hid (show i = T.length by have := HTT.out.2.1.le; omega)
          have z1 : wr.cell? ⟨w.heap.size + 1, 0, none⟩ = some (.map (some w.heap.size)) := by rw [Lib.cell_of_heap HTT.out.1.bc]; rfl
          clear hlt
          go_wp2_with fail
          go_ret
          exact ⟨_, rfl, T, HTT.out.1.mp, HTT.out.1.sz, ⟨by have := HTT.out.2.1; rw [HTE.out] at this; exact this, HTT.out.2.2.1, by have := HTT.out.2.2.2; rw [HTE.out] at this; exact this⟩, HTT.out.1.bl⟩
end Ve
end Go.Proofs.YtanponneancajaaGreatDoor


namespace Go.Proofs.YtanponneancajaaGreatDoor
open Go.RowKit Go.Maps
namespace Ve
def chkG (Q : List Raw) (L : List Ent) (roots : List Bm) : Nat × Option Nat := if (chk Q L).1 ≠ 0 then chk Q L else (codeE (nonE Q roots) roots.length, fstE (nonE Q roots) roots.length)
theorem chkG_bad {Q : List Raw} {L : List Ent} {roots : List Bm} (h : (chk Q L).1 ≠ 0) : chkG Q L roots = chk Q L := by unfold chkG; rw [if_pos h]
theorem chkG_ok {Q : List Raw} {L : List Ent} {roots : List Bm} (h : (chk Q L).1 = 0) : chkG Q L roots = (codeE (nonE Q roots) roots.length, fstE (nonE Q roots) roots.length) := by unfold chkG; rw [if_neg (by simp [h])]
theorem codeE_all {E : Nat → Nat} {n : Nat} (h : codeE E n = 0) : ∀ j, j < n → E j = 0 := by
  cases h1 : fstE E n with
  | none => exact fstE_of_none h1
  | some i =>
    rw [codeE_some h1] at h
    exact absurd h (fstE_of_some h1).2.1
theorem nonE_found {w : World} {v : Value} {Q : List Raw} {L : List Ent} (I : Ixs w v Q L) {R : List Bm} (h : codeE (nonE Q R) R.length = 0) : ∀ m, m ∈ R → m ∈ univ L := fun m hm => by
  obtain ⟨j, hj, rfl⟩ := List.getElem_of_mem hm
  have h1 := codeE_all h j hj
  rw [nonE_at hj] at h1
  unfold nonW at h1
  refine (found_iff I _).2 ?_
  rcases idx_nat (isM R[j]) Q with h2 | h2
  · rw [h2] at h1; simp at h1
  · exact h2
theorem chk_reqs0 {w : World} {v : Value} {Q : List Raw} {L : List Ent} (I : Ixs w v Q L) (h : (chk Q L).1 = 0) : ∀ m, m ∈ univ L → ∀ x, x ∈ reqQ Q L m → x ∈ univ L := fun m hm x hx => by
  have h100 : ¬ 100 < L.length := by have := (chk_each0 h).1; omega
  cases hf : fstE (entE L) L.length with
  | some i => rw [chk_each h100 hf] at h; exact absurd h (fstE_of_some hf).2.1
  | none =>
    rw [chk_reqs h100 hf] at h
    obtain ⟨k, hk⟩ := (found_iff I m).1 hm
    obtain ⟨hkq, -⟩ := idx_is hk
    have hkl : k < L.length := by rw [← I.ln]; exact hkq
    rw [reqQ_at hk hkl] at hx
    have := codeE_all h k hkl
    rw [reqE2_at hkl] at this
    exact nonE_found I this x hx
set_option maxRecDepth 100000 in
set_option maxHeartbeats 2000000 in
theorem gcheck_any (Q : List Raw) (L : List Ent) (roots : List Bm) (v rv : Value) (A : Nat → Addr) (m : Int) (w : World) (hn : L.length ≤ 1000) (hrn : roots.length ≤ 1000000) (sh : ∀ e, e ∈ L → ShE e) (S : Te w A m) (I : Ixs w v Q L) (hr : MsAt w rv roots) :
    Calls Tryz.prog 166 #[v, rv] w fun e w' => ∃ x, e = .returned x ∧ ErrAt w' A x (chkG Q L roots).1 (chkG Q L roots).2 ∧ Below w.heap.size w w' := by
  have HCK := hid (icheck_any Q L v A m w (by omega) sh S I)
  have HCM := hid (fun W (h : Below w.heap.size w W) => cmods_any Q roots v rv A m W (by rw [I.ln]; omega) hrn (S.below h) (I.es.below h) (hr.below h))
  obtain ⟨a, c, hv, -⟩ := id I.es
  subst hv
  obtain ⟨ra, rc, hrv, -⟩ := id hr
  subst hrv
  clear S I hr sh
  go_enter Tryz.func166, Tryz.ntmps166
  go_wp2_with fail
  refine HCK.out.mono ?_
  rintro e w1 ⟨x, rfl, he, hb⟩
  have HE := hid he
  have HB := hid hb
  clear hb
  rcases he.kind.symm with ⟨hc0, T, xa, rfl⟩ | ⟨hc0, rfl⟩
  · have HX := hid (chkG_bad (roots := roots) hc0)
    clear he hc0
    go_wp2_with fail
    go_ret
    exact ⟨_, rfl, by rw [HX.out]; exact HE.out, HB.out⟩
  · have HX := hid (chkG_ok (roots := roots) hc0)
    have HC2 := hid (HCM.out w1 HB.out)
    clear he hc0 HCM
    go_wp2_with fail
    refine HC2.out.mono ?_
    rintro e w2 ⟨y, rfl, he, hb⟩
    have HE2 := hid he
    have HB2 := hid (HB.out.trans (hb.mono HB.out.size))
    clear he hb
    go_wp2_with fail
    go_ret
    exact ⟨_, rfl, by rw [HX.out]; exact HE2.out, HB2.out⟩
def goQ (T : By) (Q : List Raw) : List Raw := Q.filter fun r => cameB T r.1
def goM (T : By) (Q : List Raw) : List Bm := (goQ T Q).map fun r => r.1
set_option maxRecDepth 100000 in
set_option maxHeartbeats 2000000 in
theorem reached_some (Q : List Raw) (L : List Ent) (roots : List Bm) (v rv : Value) (A : Nat → Addr) (m : Int) (w : World) (hn : L.length ≤ 1000) (hrn : roots.length ≤ 1000000) (sh : ∀ e, e ∈ L → ShE e) (S : Te w A m) (I : Ixs w v Q L) (hr : MsAt w rv roots) (h0 : (chkG Q L roots).1 = 0) :
    Calls Tryz.prog 123 #[v, rv] w fun e w' => ∃ u, e = .returned (.tuple #[u, .nilIface]) ∧ ∃ T, Came (reqQ Q L) (univ L) roots T ∧ w'.ownsRow w.heap.size 54 5 u (goQ T Q).length (flatR (goQ T Q)) ∧ Below w.heap.size w w' := by
  have hc0 : (chk Q L).1 = 0 := by
    by_cases hc : (chk Q L).1 = 0
    · exact hc
    · rw [chkG_bad hc] at h0; exact absurd h0 hc
  have hru : ∀ m, m ∈ roots → m ∈ univ L := by rw [chkG_ok hc0] at h0; exact nonE_found I h0
  have HCK := hid (gcheck_any Q L roots v rv A m w hn hrn sh S I hr)
  have hz : ∀ m, m ∈ univ L → m.1.size ≤ maxLen ∧ m.2.size ≤ maxLen := fun m hm => by
    obtain ⟨e, he, rfl⟩ := List.mem_map.1 hm
    have := sh e he
    exact ⟨by have := this.p; unfold maxLen; omega, by have := this.v; unfold maxLen; omega⟩
  have HWK := hid (fun W (h : Below w.heap.size w W) => walk_any Q L roots v rv W hn hrn (I.below h) (hr.below h) hz (fun e he => (sh e he).rn) hru (chk_reqs0 I hc0))
  obtain ⟨a, c, hv, -, hs, hcc⟩ := id I.es
  subst hv
  obtain ⟨ra, rc, hrv, -⟩ := id hr
  subst hrv
  obtain ⟨i0, hi0, hz0, hz1, hz2⟩ := info_parts infoEnt
  have HH0 := hid h0
  have HC := hid hcc
  have HSL := hid hs
  have HI := hid I
  have HZ := hid hz
  clear S I hr sh h0 hc0 hru hz hs hcc
  go_enter Tryz.func123, Tryz.ntmps123
  go_wp2_with fail
  refine HCK.out.mono ?_
  rintro e w1 ⟨x, rfl, he, hb⟩
  have HB := hid hb
  have hx : x = .nilIface := by
    rcases he.kind with ⟨_, h⟩ | ⟨h, _⟩
    · exact h
    · exact absurd HH0.out h
  subst hx
  clear hb he HCK
  go_wp2_with fail
  refine (HWK.out w1 HB.out).mono ?_
  rintro e w2 ⟨mb, rfl, T, hby, hsz, hcm, hb⟩
  have HBY := hid hby
  have HSZ := hid hsz
  have HCM := hid hcm
  have HB2 := hid (HB.out.trans (hb.mono HB.out.size))
  clear hby hsz hcm hb HWK
  go_wp2_with fail
  go_loopw [8, 22] (fun ov i wr => ∃ k : Nat, k ≤ Q.length ∧ i = .int .i64 k ∧ Hid (wr.ownsRow w2.heap.size 54 5 ov (goQ T (Q.take k)).length (flatR (goQ T (Q.take k)))) ∧ Hid (Below w2.heap.size w2 wr)) (fun _ i _ => Q.length - (intOf i).toNat)
  case atStart => exact ⟨0, Nat.zero_le _, rfl, hid (World.ownsRow_nil _ _ _ _), hid (Below.refl _ _)⟩
  case round =>
    obtain ⟨k, hk, rfl, HO, HBr⟩ := hrel
    by_cases hlt : k < Q.length
    · have HBw := hid (HB2.out.trans (HBr.out.mono HB2.out.size))
      obtain ⟨eb, eo, ha, hce⟩ := HC.out (by intro h; rw [h] at hlt; simp at hlt)
      subst ha
      obtain ⟨y0, y1, y2, y3, y4⟩ := hce k hlt
      have x0 := cell_below HBw.out y0
      have x1 := cell_below HBw.out y1
      have x2 := cell_below HBw.out y2
      have x3 := cell_below HBw.out y3
      have x4 := cell_below HBw.out y4
      have hsl := HSL.out Q[k] (List.getElem_mem hlt)
      have hkI : (k : Int) < (Q.length : Int) := by omega
      have HLT := hid hlt
      have HQL := hid (show Q.length ≤ 1000000 by have := HI.out.ln; omega)
      have HY := hid (fun h => filter_yes hlt h (P := fun r => cameB T r.1))
      have HN := hid (fun h => filter_no hlt h (P := fun r => cameB T r.1))
      have HQZ := hid (show Q[k].1.1.size ≤ maxLen ∧ Q[k].1.2.size ≤ maxLen by
        obtain ⟨h1, h2⟩ := ixs_get HI.out hlt
        exact Eq.mpr (congrArg (fun m : Bm => m.1.size ≤ maxLen ∧ m.2.size ≤ maxLen) h2) (HZ.out _ (List.mem_map.2 ⟨L[k], List.getElem_mem h1, rfl⟩)))
      have HLN := hid (show (goQ T (Q.take k)).length ≤ 1000 from Nat.le_trans (List.length_filter_le _ _) (by rw [List.length_take]; have := HI.out.ln; omega))
      clear y0 y1 y2 y3 y4 hce
      generalize Q[k] = r at *
      obtain ⟨⟨p, q⟩, rv, pv, bk⟩ := r
      obtain ⟨⟨ra2, rn2, rc2, hrv⟩, pa, pn, pc, hpv⟩ := hsl
      simp only at hrv hpv
      subst hrv
      subst hpv
      have HBa := hid ((Below.refl wr.heap.size wr).alloc (Nat.le_refl _) (.cells #[.string p, .string q, .slice ra2 rn2 rc2, .slice pa pn pc, .bool bk] 54))
      have HBB := hid (HBr.out.trans (HBa.out.mono HBr.out.size))
      have HCA := hid (came_any mb T (p, q) _ HQZ.out HSZ.out (HBY.out.below HBB.out))
      have HOa := hid (HO.out.alloc (.cells #[.string p, .string q, .slice ra2 rn2 rc2, .slice pa pn pc, .bool bk] 54))
      clear hlt
      cases hp : cameB T (p, q) with
      | false =>
        rw [hp] at HCA
        have HN2 := hid (HN.out hp)
        clear hp
        go_wp2_with fail
        refine HCA.out.mono ?_
        rintro e w3 ⟨rfl, hb⟩
        have HB3 := hid (HBB.out.trans (hb.mono HBB.out.size))
        have HO3 := hid (owns_below HOa.out hb)
        clear hb
        go_wp2_with fail
        go_roundw
        case rel => first | exact ⟨k + 1, HLT.out, nr_idx k, by unfold goQ; rw [HN2.out]; exact HO3, HB3⟩ | exact ⟨k + 1, HLT.out, nx_idx HLT.out HQL.out, by unfold goQ; rw [HN2.out]; exact HO3, HB3⟩
        case measure => first | exact nr_meas HLT.out | exact nx_meas HLT.out HQL.out
      | true =>
        rw [hp] at HCA
        have HY2 := hid (HY.out hp)
        clear hp
        go_wp2_with fail
        refine HCA.out.mono ?_
        rintro e w3 ⟨rfl, hb⟩
        have HB3 := hid (HBB.out.trans (hb.mono HBB.out.size))
        have HO3 := hid (owns_below HOa.out hb)
        have HE1 := hid (show w3.heap[wr.heap.size]? = some (.cells #[.string p, .string q, .slice ra2 rn2 rc2, .slice pa pn pc, .bool bk] 54 (0, 0)) by rw [hb.block _ (by simp)]; exact heap_alloc_new wr _)
        have z0 : w3.cell? ⟨wr.heap.size, 0, none⟩ = some (.string p) := by rw [Lib.cell_of_heap HE1.out]; rfl
        have z1 : w3.cell? ⟨wr.heap.size, 1, none⟩ = some (.string q) := by rw [Lib.cell_of_heap HE1.out]; rfl
        have z2 : w3.cell? ⟨wr.heap.size, 2, none⟩ = some (.slice ra2 rn2 rc2) := by rw [Lib.cell_of_heap HE1.out]; rfl
        have z3 : w3.cell? ⟨wr.heap.size, 3, none⟩ = some (.slice pa pn pc) := by rw [Lib.cell_of_heap HE1.out]; rfl
        have z4 : w3.cell? ⟨wr.heap.size, 4, none⟩ = some (.bool bk) := by rw [Lib.cell_of_heap HE1.out]; rfl
        clear hb x0 x1 x2 x3 x4
        go_wp2_with (at_builtin; refine wpList_append_own _ rfl _ _ 42 rfl w2.heap.size 54 i0 _ 5 88 Tryz.underlying42 hi0 hz0 hz1 hz2 rfl (by decide) _ _ _ rfl (HO3.out.alloc _) ⟨w3.heap.size, 0, none⟩ 1 1 [.string p, .string q, .slice ra2 rn2 rc2, .slice pa pn pc, .bool bk] rfl rfl ?c1 ?c2 ?c3 ?c4 ?c5 ?_)
        case c1 => exact World.news_of_block (cs := #[.string p, .string q, .slice ra2 rn2 rc2, .slice pa pn pc, .bool bk]) (t := 54) (fr := (0, 0)) (heap_alloc_new w3 _)
        case c2 =>
          intro u hu
          simp at hu
          rcases hu with rfl | rfl | rfl | rfl | rfl <;> rfl
        case c3 => have := HLN.out; unfold maxLen; omega
        case c4 => have := HLN.out; omega
        case c5 => have := HB3.out.size; simp; omega
        intro v' w4 hown hgrow _
        have HR3 := hid (rel_app5 HB3.out.size HB3.out HO3.out (Below.refl _ _) hgrow)
        have HO4 := hid hown
        clear hown hgrow z0 z1 z2 z3 z4
        go_wp2_with fail
        go_roundw
        case rel => first | exact ⟨k + 1, HLT.out, nr_idx k, hid (own_nextR (x := ((p, q), .slice ra2 rn2 rc2, .slice pa pn pc, bk)) HO4.out HY2.out), HR3⟩ | exact ⟨k + 1, HLT.out, nx_idx HLT.out HQL.out, hid (own_nextR (x := ((p, q), .slice ra2 rn2 rc2, .slice pa pn pc, bk)) HO4.out HY2.out), HR3⟩
        case measure => first | exact nr_meas HLT.out | exact nx_meas HLT.out HQL.out
    · have HTR := hid (show Q.take k = Q from List.take_of_length_le (by omega))
      rw [HTR.out] at HO
      have hkI : ¬ (k : Int) < (Q.length : Int) := by omega
      obtain ⟨oa, oc, hov⟩ := own_slN HO.out
      subst hov
      clear hlt
      go_wp2_with fail
      go_ret2
      exact ⟨_, rfl, T, HCM.out, own_baseN HO.out HB2.out.size, HB2.out.trans (HBr.out.mono HB2.out.size)⟩
end Ve
end Go.Proofs.YtanponneancajaaGreatDoor
