/-
  KeR FoA CdA Cd3 OrdN RefL
-/
import Derived.Test.YtnkgjddkdikikaaGreatDoorPq27
import Derived.Test.YtnkgjddkdikikaaGreatDoorPq29
import Derived.Test.YtnkgjddkdikikaaGreatDoorPq31
import Derived.Test.YtnkgjddkdikikaaGreatDoorPq5
import Derived.Test.YtnkgjddkdikikaaGreatDoorPq35
import Derived.Test.YtnkgjddkdikikaaGreatDoorPq3
import Derived.Test.YtnkgjddkdikikaaGreatDoorPq13
import Derived.Test.YtnkgjddkdikikaaGreatDoorPq10
import Derived.Test.YtnkgjddkdikikaaGreatDoorPq2
import Derived.Test.YtnkgjddkdikikaaGreatDoorPq7
import Derived.Test.YtnkgjddkdikikaaGreatDoorPq4
import Derived.Test.YtnkgjddkdikikaaGreatDoorPq21
import Derived.Test.YtnkgjddkdikikaaGreatDoorPq23
import Derived.Test.YtnkgjddkdikikaaGreatDoorPq24
import Derived.Test.YtnkgjddkdikikaaGreatDoorPq30
import Derived.Test.YtnkgjddkdikikaaGreatDoorPq1
import Derived.Test.YtnkgjddkdikikaaGreatDoorPq6
import Derived.Test.YtnkgjddkdikikaaGreatDoorPq12
import Derived.Test.YtnkgjddkdikikaaGreatDoorPq16
import Derived.Test.YtnkgjddkdikikaaGreatDoorPq19
import Derived.Test.YtnkgjddkdikikaaGreatDoorPq9
import Derived.Test.YtnkgjddkdikikaaGreatDoorPq63
namespace Go.Proofs.YtnkgjddkdikikaaGreatDoor
open Go.RowKit Go.Maps
namespace Ve
theorem keys_of {w : World} {v : Value} {Q : List Raw} {L : List Ent} (I : Ixs w v Q L) : Q.map keyR = L.map fun e => (e.1, e.2.2.2) := by
  apply List.ext_getElem
  · simp [I.ln]
  · intro j h1 h2
    have hq : j < Q.length := by simpa using h1
    have hl : j < L.length := by rw [← I.ln]; exact hq
    simp only [List.getElem_map]
    have h := I.ok j hq hl
    exact Prod.ext h.m h.bk
end Ve
end Go.Proofs.YtnkgjddkdikikaaGreatDoor
namespace Go.Proofs.YtnkgjddkdikikaaGreatDoor
open Go.RowKit Go.Maps
namespace Ve
theorem findOf_noneJ (a : Option Addr) (c : Nat) (m : Bm) (w : World) : Calls Tryz.prog 28 #[.slice a 0 c, .agg #[.string m.1, .string m.2]] w fun e w' => e = .returned (.int .i64 (-1)) ∧ Below w.heap.size w w' := by
  have HB0 := hid ((Below.refl w.heap.size w).alloc (Nat.le_refl _) (.cells #[.string m.1, .string m.2] 35))
  go_enter Tryz.func28, Tryz.ntmps28
  go_wp2_with fail
  go_loopw [5] (fun i wr => i = .int .i64 0 ∧ Hid (Below w.heap.size w wr)) (fun i _ => 0)
  case atStart => exact ⟨rfl, HB0⟩
  case round =>
    obtain ⟨rfl, HB⟩ := hrel
    go_wp2_with fail
    go_ret
    exact ⟨rfl, HB.out⟩
theorem findOf_allJ (Q : List Raw) (m : Bm) (v : Value) (w : World) (hL : Q.length ≤ 1000000) (hv : EsAt w v Q) :
    Calls Tryz.prog 28 #[v, .agg #[.string m.1, .string m.2]] w fun e w' => e = .returned (.int .i64 (idxOf (isM m) Q)) ∧ Below w.heap.size w w' := by
  by_cases hQ : Q = []
  · subst hQ
    obtain ⟨a, c, rfl, _⟩ := hv
    exact findOf_noneJ a c m w
  · exact findOf_any Q m v w hL (List.length_pos_iff.2 hQ) hv
end Ve
end Go.Proofs.YtnkgjddkdikikaaGreatDoor
namespace Go.Proofs.YtnkgjddkdikikaaGreatDoor
open Go.RowKit Go.Maps
namespace Ve
theorem code_at2 (A : Nat → Addr) (x : Value) (c : Nat) (o : Option Nat) (w : World) (S : Er.Sen w A) (h : ErrAt w A x c o) (hc : c ≤ 10) :
    Calls Tryz.prog 82 #[x] w fun e w' => e = .returned (.tuple #[.int .i64 (c : Nat), .int .i64 (atOf o)]) ∧ Below w.heap.size w w' := by
  cases o with
  | none =>
    have h : x = errA A c := h
    subst h
    cases c with
    | zero => exact (Er.code_nil w).mono fun e w' h => ⟨h.1, by rw [h.2]; exact Below.refl _ _⟩
    | succ j => exact Er.code_sen A j w S (by omega)
  | some i =>
    obtain ⟨h0, b, rfl, h1, h2⟩ := h
    obtain ⟨j, rfl⟩ : ∃ j, c = j + 1 := ⟨c - 1, by omega⟩
    rw [errA_if A h0] at h2
    exact Er.code_fault b 0 i A j w S (by omega) (lt_of_cell h1) h1 h2
theorem modErr_err (p v : List UInt8) : modErr p v = 0 ∨ modErr p v = 1 ∨ modErr p v = 2 ∨ modErr p v = 4 := by
  unfold modErr
  by_cases h0 : pathErr p = 0
  · rw [if_pos h0]
    by_cases h1 : verErr v = 0
    · rw [if_pos h1]
      cases fitsB (nAt v 0) (pathN p)
      · right; right; right; rfl
      · left; rfl
    · rw [if_neg h1]
      rcases verErr_err v with h | h | h <;> omega
  · rw [if_neg h0]; exact pathErr_err p
theorem mErr_le (m : Bm) : mErr m ≤ 10 := by
  have := modErr_err m.1.data.toList m.2.data.toList
  unfold mErr; omega
theorem reqE_le (own : ByteArray) (L : List Bm) (i : Nat) : reqE own L i ≤ 10 := by
  unfold reqE
  split
  · omega
  · rename_i m _
    have := mErr_le m
    unfold reqW
    repeat' split
    all_goals omega
theorem codeE_le {E : Nat → Nat} {n : Nat} (h : ∀ i, E i ≤ 10) : codeE E n ≤ 10 := by
  cases h1 : fstE E n with
  | none => unfold codeE; rw [h1]; simp
  | some j => rw [codeE_some h1]; exact h j
theorem packErr_le (Z : List (List UInt8)) : packErr Z ≤ 10 := by
  unfold packErr
  repeat' split
  all_goals omega
theorem entR_le (e : Ent) : entR e ≤ 10 := by
  unfold entR
  repeat' split
  all_goals first | omega | exact codeE_le (reqE_le _ _) | exact packErr_le _
theorem entE_le (L : List Ent) (i : Nat) : entE L i ≤ 10 := by
  unfold entE
  split
  · omega
  · unfold entW
    repeat' split
    all_goals first | omega | exact mErr_le _ | exact entR_le _
theorem nonW_le (Q : List Raw) (m : Bm) : nonW Q m ≤ 10 := by
  unfold nonW
  split <;> omega
theorem nonE_le (Q : List Raw) (R : List Bm) (i : Nat) : nonE Q R i ≤ 10 := by
  unfold nonE
  split
  · omega
  · exact nonW_le _ _
theorem reqE2_le (Q : List Raw) (L : List Ent) (i : Nat) : reqE2 Q L i ≤ 10 := by
  unfold reqE2
  split
  · omega
  · exact codeE_le (nonE_le _ _)
theorem chk_le (Q : List Raw) (L : List Ent) : (chk Q L).1 ≤ 10 := by
  unfold chk
  repeat' split
  all_goals first | (simp only; omega) | exact entE_le _ _ | exact codeE_le (reqE2_le _ _)
end Ve
end Go.Proofs.YtnkgjddkdikikaaGreatDoor
namespace Go.Proofs.YtnkgjddkdikikaaGreatDoor
open Go.RowKit Go.Maps
namespace Ve
set_option maxHeartbeats 1000000 in
theorem faulted3_any (A : Nat → Addr) (x : Value) (r : Nat × Option Nat) (w : World) (S : Er.Sen w A) (h : ErrAt w A x r.1 r.2) (hc : r.1 ≤ 10) :
    Calls Tryz.prog 38 #[x, faultV r] w fun e w' => e = .returned (.bool true) ∧ Below w.heap.size w w' := by
  obtain ⟨c, o⟩ := r
  have HB0 := hid ((Below.refl w.heap.size w).alloc (Nat.le_refl _) (.cells #[.int .i64 (c : Nat), .int .i64 (atOf o)] 62))
  have HC := hid (code_at2 A x c o _ (S.below HB0.out) (h.below HB0.out) hc)
  unfold faultV
  simp only
  generalize atOf o = y at *
  generalize (c : Int) = z at *
  have e1 : (z == z) = true := beq_self_eq_true z
  have e2 : (y == y) = true := beq_self_eq_true y
  clear S h hc
  go_enter Tryz.func38, Tryz.ntmps38
  go_wp2_with fail
  refine HC.out.mono ?_
  rintro e w1 ⟨rfl, hb⟩
  obtain ⟨⟨r0, r1⟩, rz⟩ := res2 (hb.mono (by simp))
  have HB := hid (HB0.out.trans (hb.mono HB0.out.size))
  clear hb
  cases hz : (z == 0)
  all_goals
    go_wp2_with fail
    go_ret
    exact ⟨rfl, HB.out⟩
end Ve
end Go.Proofs.YtnkgjddkdikikaaGreatDoor
namespace Go.Proofs.YtnkgjddkdikikaaGreatDoor
open Go.RowKit
namespace Ve
theorem grown_below {W W' : World} (h : W.grownBy W' none) : Below W.heap.size W W' := ⟨h.os, h.tape, h.output, h.size, fun k hk => h.block k hk (by simp)⟩
theorem owned_cap {w : World} {base : Nat} {e : TypeId} {g n cap : Nat} {xs : List Value} (h : w.ownsRow base e 1 (.slice (some ⟨g, 0, none⟩) n cap) n xs) : n ≤ cap ∧ cap ≤ maxLen := by
  rcases h.2 with ⟨h, _⟩ | ⟨g', cap', cur, h1, _, _, h4, h5, _⟩
  · cases h
  · injection h1 with _ _ h1
    subst h1
    exact ⟨h4, h5⟩
theorem owned_at {w : World} {base : Nat} {e : TypeId} {g cap : Nat} {X : List ByteArray} (h : w.ownsRow base e 1 (.slice (some ⟨g, 0, none⟩) X.length cap) X.length (X.map Value.string)) : ∀ j (hj : j < X.length), w.cell? ⟨g, j, none⟩ = some (.string X[j]) := by
  intro j hj
  obtain ⟨g', cap', e1, _, _, h2⟩ := owned_cells h (by intro e; subst e; cases hj)
  injection e1 with e1 _ _
  injection e1 with e1
  injection e1 with e1 _ _
  rw [e1]; exact h2 j hj
theorem news_at {w : World} {g : Nat} {X : List ByteArray} (h : ∀ j (hj : j < X.length), w.cell? ⟨g, j, none⟩ = some (.string X[j])) (o m : Nat) : ∀ j u, (((X.drop o).take m).map Value.string)[j]? = some u → w.cell? ((⟨g, o, none⟩ : Addr).add j) = some u := by
  intro j u hj
  rw [List.getElem?_map, List.getElem?_take] at hj
  split at hj
  · rw [List.getElem?_drop] at hj
    cases e : X[o + j]? with
    | none => rw [e] at hj; simp at hj
    | some x =>
      rw [e] at hj
      obtain ⟨hl, e2⟩ := List.getElem?_eq_some_iff.1 e
      have := h (o + j) hl
      rw [e2] at this
      simp at hj
      rw [← hj]
      rw [Addr.add_lit]; exact this
  · simp at hj
set_option maxRecDepth 100000 in
set_option maxHeartbeats 8000000 in
theorem sortVers_some (b0 o0 cap : Nat) (L : List ByteArray) (w : World) (hL : ∀ j (h : j < L.length), w.cell? ⟨b0, o0 + j, none⟩ = some (.string L[j])) (h12 : L.length ≤ 1000) (hz : ∀ x, x ∈ L → x.size ≤ 80) :
    Calls Tryz.prog 156 #[.slice (some ⟨b0, o0, none⟩) L.length cap] w fun e w' => ∃ v X, e = .returned v ∧ w'.ownsRow w.heap.size 9 1 v X.length (X.map Value.string) ∧ Kept L L.length X ∧ Below w.heap.size w w' := by
  obtain ⟨i0, hi, hz0, hz1, hz2⟩ := info_parts infoStr
  have HL := hid hL
  have HZ := hid hz
  clear hL hz
  go_enter Tryz.func156, Tryz.ntmps156
  go_wp2_with fail
  go_loopw [3, 4] (fun v i wr => ∃ (k : Nat) (X : List ByteArray), k ≤ L.length ∧ X.length ≤ k ∧ i = .int .i64 k ∧ Hid (Kept L k X) ∧ Hid (Sv w wr b0 o0 L X v)) (fun _ i _ => L.length - (intOf i).toNat)
  case atStart => exact ⟨0, [], Nat.zero_le _, Nat.le_refl _, rfl, hid ⟨List.Pairwise.nil, fun t => by simp [bl]⟩, hid ⟨World.ownsRow_nil _ _ _ _, fun _ => rfl, Below.refl _ _, HL.out⟩⟩
  case round =>
    obtain ⟨k, X, hk, hXk, rfl, HK, HS⟩ := hrel
    by_cases hkL : k < L.length
    · have hcell := HS.out.ls k hkL
      have hq80 : L[k].size ≤ 80 := HZ.out _ (List.getElem_mem hkL)
      have HIV := hid (fun W => isVer_any L[k] W (by omega))
      have HKN := hid (fun h => kept_no hkL HK.out h)
      have HKO := hid (fun h => kept_old hkL HK.out h)
      have HKW := hid (fun h (j : Nat) hj h1 h2 => kept_new hkL HK.out h (j := j) hj h1 h2)
      have HLC := hid (fun (W : World) (v' : Value) (X' : List ByteArray) (h : Sv w W b0 o0 L X' v') => h.ls k hkL)
      have HX80 := hid (show ∀ x, x ∈ X → x.size < 999999 ∧ verErr x.data.toList = 0 from fun x hx => by
        have h1 := (HK.out.2 x.data.toList).1 (bl_mem hx)
        refine ⟨?_, h1.2⟩
        obtain ⟨y, hy, e⟩ := List.mem_map.1 h1.1
        have h2 := HZ.out y (List.mem_of_mem_take hy)
        have h3 := congrArg List.length e
        rw [len_eq, len_eq] at h3
        omega)
      generalize hq : L[k] = q at *
      clear hq
      have hkl : (k : Int) < (L.length : Int) := by omega
      have hk0 : (0 : Int) ≤ (k : Int) := by omega
      by_cases hv : verErr q.data.toList = 0
      · rw [decide_eq_true hv] at HIV
        have HV := hid hv
        clear hv
        go_wp2_with fail
        refine (HIV.out _).mono ?_
        rintro e w1 ⟨rfl, hb1⟩
        have HS1 := hid (HS.out.below hb1)
        clear hb1 hcell
        go_wp2_with fail
        go_loopw [6] (fun a wr2 => ∃ j : Nat, j ≤ X.length ∧ a = .int .i64 j ∧ Hid (∀ t (ht : t < X.length), t < j → ordV X[t].data.toList q.data.toList < 0) ∧ Hid (Sv w wr2 b0 o0 L X u3)) (fun a _ => X.length - (intOf a).toNat)
        case atStart => exact ⟨0, Nat.zero_le _, rfl, hid (fun t _ h => absurd h (Nat.not_lt_zero t)), HS1⟩
        case round =>
          obtain ⟨j, hj, rfl, HLT, HS2⟩ := hrel
          by_cases hX : X = []
          · subst hX
            obtain rfl := HS2.out.nl rfl
            obtain rfl : j = 0 := by simpa using hj
            go_wp2_with fail
            go_region
            have HSX := hid (HS2.out.below (below_drawn _ 1))
            have hc := HLC.out _ _ _ HS2.out
            have hwz := HS2.out.bl.size
            go_wp2_with (first
              | (at_builtin; refine wpList_append_own_none rfl _ _ 29 rfl 0 9 i0 1 Tryz.underlying29 hi _ _ _ rfl (World.ownsRow_nil _ _ _ _) rfl ?_)
              | (at_builtin; refine wpList_append_own _ rfl _ _ 29 rfl w.heap.size 9 i0 (.string ByteArray.empty) 1 16 Tryz.underlying29 hi hz0 hz1 hz2 rfl (by decide) _ _ _ rfl (World.ownsRow_nil _ _ _ _) ⟨wr.heap.size, 0, none⟩ 1 1 [.string q] rfl rfl ?c1 ?c2 ?c3 ?c4 ?c5 ?_))
            case c1 =>
              intro t u ht
              match t, ht with
              | 0, ht => simp at ht; subst ht; simp [Addr.add]
            case c2 => intro u hu; simp at hu; subst hu; rfl
            case c3 => unfold maxLen; omega
            case c4 => omega
            case c5 => simp; omega
            intro v1 W1 hown1 hgr1 _
            have HO1 := hid hown1
            have HB1 := hid (((Below.refl wr.heap.size wr).trans ((below_drawn wr 1).alloc (Nat.le_refl _) _)).grown hgr1 (by simp) (fun t ht => by cases ht))
            have HS3 := hid (HS2.out.below HB1.out)
            clear hown1 hgr1 hc
            go_wp2_with (at_builtin; refine wpList_append_own_none rfl _ _ 29 rfl _ 9 i0 1 Tryz.underlying29 hi _ _ _ rfl (HO1.out) rfl ?_)
            go_roundw
            case rel => exact ⟨k + 1, [q], by omega, by simp, by go_num, hid (by simpa using HKW.out HV.out 0 (Nat.zero_le _) (fun t ht => absurd ht (by simp)) (fun ht => absurd ht (by simp))), hid ⟨by simpa using HO1.out, (fun h => by cases h), HS3.out.bl, HS3.out.ls⟩⟩
            case measure => simp [intOf]; omega
          · obtain ⟨g, cp, rfl, hg, hgz, _⟩ := owned_cells HS2.out.own hX
            by_cases hjX : j < X.length
            · have HTW := hid (fun (W : World) (h : Sv w W b0 o0 L X (.slice (some ⟨g, 0, none⟩) X.length cp)) => And.intro (owned_at h.own j hjX) (And.intro (HLC.out _ _ _ h) (hid h)))
              have HXJ := hid (HX80.out X[j] (List.getElem_mem hjX))
              have HXM := hid (bl_mem (List.getElem_mem hjX))
              have hj0 : (0 : Int) ≤ (j : Int) := by omega
              have hjl : (j : Int) < (X.length : Int) := by omega
              by_cases ho : ordV X[j].data.toList q.data.toList < 0
              · have HL2 := hid (show ∀ t (ht : t < X.length), t < j + 1 → ordV X[t].data.toList q.data.toList < 0 from fun t ht hl => by
                  by_cases e : t = j
                  · subst e; exact ho
                  · exact HLT.out t ht (by omega))
                have HLT := hid True.intro
                generalize hxj : X[j] = xj at *
                clear hxj
                have HOV := hid (fun W => orderVer_any xj q W HXJ.out.1 (by omega) HXJ.out.2 HV.out)
                obtain ⟨x1, x2, _⟩ := HTW.out _ HS2.out
                generalize ordV xj.data.toList q.data.toList = od at HOV ho
                go_wp2_with fail
                go_region_held (fun W => W.cell? ⟨g, j, none⟩ = some (.string xj) ∧ W.cell? ⟨b0, o0 + k, none⟩ = some (.string q) ∧ Hid (Sv w W b0 o0 L X (.slice (some ⟨g, 0, none⟩) X.length cp))) (first | exact HTW.out _ HS3.out | exact HTW.out _ (HS2.out.below (below_drawn _ 1))) (first
                  | (go_at_call 40; refine (HOV.out _).mono ?_; rintro e w' ⟨rfl, hb⟩; have HS3 := hid ((HS2.out.below (below_drawn _ 1)).below hb); clear hb))
                all_goals
                  go_wp2_with fail
                  go_roundw
                  case rel => exact ⟨j + 1, by omega, by go_num, HL2, HS3⟩
                  case measure => simp [intOf]; omega
              · by_cases he : X[j] = q
                · have HK2 := hid (HKO.out (by rw [← he]; exact HXM.out))
                  subst he
                  generalize hxj : X[j] = xj at *
                  clear hxj
                  have HOV := hid (fun W => orderVer_any xj xj W HXJ.out.1 (by omega) HXJ.out.2 HV.out)
                  obtain ⟨x1, x2, _⟩ := HTW.out _ HS2.out
                  have hss : (xj.toList == xj.toList) = true := by simp
                  generalize ordV xj.data.toList xj.data.toList = od at HOV ho
                  go_wp2_with fail
                  go_region_held (fun W => W.cell? ⟨g, j, none⟩ = some (.string xj) ∧ W.cell? ⟨b0, o0 + k, none⟩ = some (.string xj) ∧ Hid (Sv w W b0 o0 L X (.slice (some ⟨g, 0, none⟩) X.length cp))) (first | exact HTW.out _ HS3.out | exact HTW.out _ (HS2.out.below (below_drawn _ 1))) (first
                    | (go_at_call 40; refine (HOV.out _).mono ?_; rintro e w' ⟨rfl, hb⟩; have HS3 := hid ((HS2.out.below (below_drawn _ 1)).below hb); clear hb))
                  all_goals
                    clear x1 x2
                    obtain ⟨x1, x2, _⟩ := HTW.out _ HS3.out
                    go_wp2_with fail
                    go_quiet (fail)
                    go_wp2_with fail
                    go_roundw
                    case rel => exact ⟨k + 1, X, by omega, by omega, by go_num, HK2, hid (HS3.out.below (below_drawn _ _))⟩
                    case measure => simp [intOf]; omega
                · have hss := str_ne he
                  have HKX := hid (HKW.out HV.out j hj HLT.out (fun _ => ⟨by omega, fun e => he (str_ext e)⟩))
                  clear he
                  generalize hxj : X[j] = xj at *
                  clear hxj
                  have HOV := hid (fun W => orderVer_any xj q W HXJ.out.1 (by omega) HXJ.out.2 HV.out)
                  obtain ⟨x1, x2, _⟩ := HTW.out _ HS2.out
                  generalize ordV xj.data.toList q.data.toList = od at HOV ho
                  go_wp2_with fail
                  go_region_held (fun W => W.cell? ⟨g, j, none⟩ = some (.string xj) ∧ W.cell? ⟨b0, o0 + k, none⟩ = some (.string q) ∧ Hid (Sv w W b0 o0 L X (.slice (some ⟨g, 0, none⟩) X.length cp))) (first | exact HTW.out _ HS3.out | exact HTW.out _ (HS2.out.below (below_drawn _ 1))) (first
                    | (go_at_call 40; refine (HOV.out _).mono ?_; rintro e w' ⟨rfl, hb⟩; have HS3 := hid ((HS2.out.below (below_drawn _ 1)).below hb); clear hb))
                  all_goals
                    clear x1 x2
                    obtain ⟨x1, x2, _⟩ := HTW.out _ HS3.out
                    go_wp2_with fail
                    go_quiet (fail)
                    have HSX := hid (HS3.out.below (below_drawn w' nq))
                    clear x1 x2
                    generalize w'.drewN nq = W at *
                    have hcl := owned_at HSX.out.own
                    have hc := HLC.out _ _ _ HSX.out
                    have hcap := owned_cap HSX.out.own
                    have hcp : cp ≤ 9223372036854775807 := hcap.2
                    have t1 : (0 : Int) ≤ (j : Int) := by omega
                    have t2 : (j : Int) ≤ (cp : Int) := by omega
                    have t3 : (j : Int) ≤ (X.length : Int) := by omega
                    have t4 : (X.length : Int) ≤ (cp : Int) := by omega
                    have HCL := hid hcl
                    clear hcl hcap
                    go_wp2_with (at_builtin; refine wpList_append_own _ rfl _ _ 29 rfl W.heap.size 9 i0 (.string ByteArray.empty) 1 16 Tryz.underlying29 hi hz0 hz1 hz2 rfl (by decide) _ _ _ rfl (World.ownsRow_nil _ _ _ _) ⟨g, 0, none⟩ j cp ((X.take j).map Value.string) rfl ?c0 ?c1 ?c2 ?c3 ?c4 ?c5 ?_)
                    case c0 => first | (simp; done) | (simp; omega)
                    case c1 => intro t u ht; exact news_at HCL.out 0 j t u (by simpa using ht)
                    case c2 => intro u hu; obtain ⟨x, _, rfl⟩ := List.mem_map.1 hu; rfl
                    case c3 => unfold maxLen; omega
                    case c4 => omega
                    case c5 => exact Nat.le_refl _
                    intro v1 W1 hown1 hgr1 _
                    have HO1 := hid hown1
                    have HB1 := hid (grown_below hgr1)
                    have HS4 := hid (HSX.out.below HB1.out)
                    have hc1 := HLC.out _ _ _ HS4.out
                    have hw1 := HB1.out.size
                    clear hown1 hgr1 hc
                    go_wp2_with (at_builtin; refine wpList_append_own _ rfl _ _ 29 rfl W.heap.size 9 i0 (.string ByteArray.empty) 1 16 Tryz.underlying29 hi hz0 hz1 hz2 rfl (by decide) _ _ _ rfl (HO1.out.alloc _) ⟨W1.heap.size, 0, none⟩ 1 1 [.string q] rfl rfl ?c1 ?c2 ?c3 ?c4 ?c5 ?_)
                    case c1 =>
                      intro t u ht
                      match t, ht with
                      | 0, ht => simp at ht; subst ht; simp [Addr.add]
                    case c2 => intro u hu; simp at hu; subst hu; rfl
                    case c3 => unfold maxLen; omega
                    case c4 => omega
                    case c5 => simp; omega
                    intro v2 W2 hown2 hgr2 _
                    have HO2 := hid hown2
                    have HB2 := hid (rel_app HB1.out.size HB1.out HO1.out (Below.refl _ _) hgr2)
                    have HS5 := hid (HSX.out.below HB2.out)
                    have HCL2 := hid (owned_at HS5.out.own)
                    have hw2 := HB2.out.size
                    clear hown2 hgr2 hc1
                    go_wp2_with (at_builtin; refine wpList_append_own _ rfl _ _ 29 rfl W.heap.size 9 i0 (.string ByteArray.empty) 1 16 Tryz.underlying29 hi hz0 hz1 hz2 rfl (by decide) _ _ _ rfl HO2.out ⟨g, j, none⟩ (X.length - j) (cp - j) ((X.drop j).map Value.string) rfl ?c0 ?c1 ?c2 ?c3 ?c4 ?c5 ?_)
                    case c0 => simp
                    case c1 => intro t u ht; exact news_at HCL2.out j (X.length - j) t u (by rw [List.take_of_length_le (by simp)]; exact ht)
                    case c2 => intro u hu; obtain ⟨x, _, rfl⟩ := List.mem_map.1 hu; rfl
                    case c3 => unfold maxLen; omega
                    case c4 => omega
                    case c5 => exact hw2
                    intro v3 W3 hown3 hgr3 _
                    have HB3 := hid (HB2.out.grown hgr3 hw2 (fun t ht => (HO2.out.lt t ht).1))
                    have HS6 := hid (HSX.out.below HB3.out)
                    have HO3 := hid (show W3.ownsRow w.heap.size 9 1 v3 (X.take j ++ q :: X.drop j).length ((X.take j ++ q :: X.drop j).map Value.string) by
                      have h := owns_mono hown3 (HSX.out.bl.size)
                      have e1 : (X.take j ++ q :: X.drop j).length = j + 1 + (X.length - j) := by simp; omega
                      rw [e1]
                      simpa using h)
                    clear hown3 hgr3
                    go_wp2_with fail
                    go_roundw
                    case rel => exact ⟨k + 1, X.take j ++ q :: X.drop j, by omega, by simp; omega, by go_num, HKX, hid ⟨HO3.out, (fun h => by simp at h), HS6.out.bl, HS6.out.ls⟩⟩
                    case measure => simp [intOf]; omega
            · obtain rfl : j = X.length := by omega
              have HKX := hid (HKW.out HV.out X.length hj HLT.out (fun h => absurd h hjX))
              go_wp2_with fail
              go_region
              have HSX := hid (show Sv w wr.drew b0 o0 L X (.slice (some ⟨g, 0, none⟩) X.length cp) from HS2.out.below (below_drawn wr 1))
              generalize wr.drew = W at *
              have hcap0 := owned_cap HSX.out.own
              by_cases hcx : cp = X.length
              · subst hcx
                have hcl := owned_at HSX.out.own
                have hc := HLC.out _ _ _ HSX.out
                have hcap := owned_cap HSX.out.own
                have hcp : X.length ≤ 9223372036854775807 := hcap.2
                have t1 : (0 : Int) ≤ (X.length : Int) := by omega
                have t2 : (X.length : Int) ≤ (X.length : Int) := by omega
                have t3 : (X.length : Int) ≤ (X.length : Int) := by omega
                have t4 : (X.length : Int) ≤ (X.length : Int) := by omega
                have HCL := hid hcl
                clear hcl hcap
                go_wp2_with (at_builtin; refine wpList_append_own _ rfl _ _ 29 rfl W.heap.size 9 i0 (.string ByteArray.empty) 1 16 Tryz.underlying29 hi hz0 hz1 hz2 rfl (by decide) _ _ _ rfl (World.ownsRow_nil _ _ _ _) ⟨g, 0, none⟩ (X.length) X.length ((X.take (X.length)).map Value.string) rfl ?c0 ?c1 ?c2 ?c3 ?c4 ?c5 ?_)
                case c0 => first | (simp; done) | (simp; omega)
                case c1 => intro t u ht; exact news_at HCL.out 0 (X.length) t u (by simpa using ht)
                case c2 => intro u hu; obtain ⟨x, _, rfl⟩ := List.mem_map.1 hu; rfl
                case c3 => unfold maxLen; omega
                case c4 => omega
                case c5 => exact Nat.le_refl _
                intro v1 W1 hown1 hgr1 _
                have HO1 := hid hown1
                have HB1 := hid (grown_below hgr1)
                have HS4 := hid (HSX.out.below HB1.out)
                have hc1 := HLC.out _ _ _ HS4.out
                have hw1 := HB1.out.size
                clear hown1 hgr1 hc
                go_wp2_with (at_builtin; refine wpList_append_own _ rfl _ _ 29 rfl W.heap.size 9 i0 (.string ByteArray.empty) 1 16 Tryz.underlying29 hi hz0 hz1 hz2 rfl (by decide) _ _ _ rfl (HO1.out.alloc _) ⟨W1.heap.size, 0, none⟩ 1 1 [.string q] rfl rfl ?c1 ?c2 ?c3 ?c4 ?c5 ?_)
                case c1 =>
                  intro t u ht
                  match t, ht with
                  | 0, ht => simp at ht; subst ht; simp [Addr.add]
                case c2 => intro u hu; simp at hu; subst hu; rfl
                case c3 => unfold maxLen; omega
                case c4 => omega
                case c5 => simp; omega
                intro v2 W2 hown2 hgr2 _
                have HO2 := hid hown2
                have HB2 := hid (rel_app HB1.out.size HB1.out HO1.out (Below.refl _ _) hgr2)
                have HS5 := hid (HSX.out.below HB2.out)
                have HCL2 := hid (owned_at HS5.out.own)
                have hw2 := HB2.out.size
                clear hown2 hgr2 hc1
                go_wp2_with (at_builtin; refine wpList_append_own _ rfl _ _ 29 rfl W.heap.size 9 i0 (.string ByteArray.empty) 1 16 Tryz.underlying29 hi hz0 hz1 hz2 rfl (by decide) _ _ _ rfl HO2.out _ _ _ [] rfl ?c0 ?c1 ?c2 ?c3 ?c4 ?c5 ?_)
                case c0 => simp
                case c1 => intro t u ht; simp at ht
                case c2 => intro u hu; cases hu
                case c3 => unfold maxLen; omega
                case c4 => omega
                case c5 => exact hw2
                intro v3 W3 hown3 hgr3 _
                have HB3 := hid (HB2.out.grown hgr3 hw2 (fun t ht => (HO2.out.lt t ht).1))
                have HS6 := hid (HSX.out.below HB3.out)
                have HO3 := hid (show W3.ownsRow w.heap.size 9 1 v3 (X.take (X.length) ++ q :: X.drop (X.length)).length ((X.take (X.length) ++ q :: X.drop (X.length)).map Value.string) by
                  have h := owns_mono hown3 (HSX.out.bl.size)
                  have e1 : (X.take (X.length) ++ q :: X.drop (X.length)).length = X.length + 1 := by simp
                  rw [e1]
                  simpa using h)
                clear hown3 hgr3
                go_wp2_with fail
                go_roundw
                case rel => exact ⟨k + 1, X.take (X.length) ++ q :: X.drop (X.length), by omega, by simp; omega, by go_num, HKX, hid ⟨HO3.out, (fun h => by simp at h), HS6.out.bl, HS6.out.ls⟩⟩
                case measure => simp [intOf]; omega
              · have hcx1 : X.length < cp := by omega
                have hcx2 : (X.length : Int) < (cp : Int) := by omega
                have hcl := owned_at HSX.out.own
                have hc := HLC.out _ _ _ HSX.out
                have hcap := owned_cap HSX.out.own
                have hcp : cp ≤ 9223372036854775807 := hcap.2
                have t1 : (0 : Int) ≤ (X.length : Int) := by omega
                have t2 : (X.length : Int) ≤ (cp : Int) := by omega
                have t3 : (X.length : Int) ≤ (X.length : Int) := by omega
                have t4 : (X.length : Int) ≤ (cp : Int) := by omega
                have HCL := hid hcl
                clear hcl hcap
                go_wp2_with (at_builtin; refine wpList_append_own _ rfl _ _ 29 rfl W.heap.size 9 i0 (.string ByteArray.empty) 1 16 Tryz.underlying29 hi hz0 hz1 hz2 rfl (by decide) _ _ _ rfl (World.ownsRow_nil _ _ _ _) ⟨g, 0, none⟩ (X.length) cp ((X.take (X.length)).map Value.string) rfl ?c0 ?c1 ?c2 ?c3 ?c4 ?c5 ?_)
                case c0 => first | (simp; done) | (simp; omega)
                case c1 => intro t u ht; exact news_at HCL.out 0 (X.length) t u (by simpa using ht)
                case c2 => intro u hu; obtain ⟨x, _, rfl⟩ := List.mem_map.1 hu; rfl
                case c3 => unfold maxLen; omega
                case c4 => omega
                case c5 => exact Nat.le_refl _
                intro v1 W1 hown1 hgr1 _
                have HO1 := hid hown1
                have HB1 := hid (grown_below hgr1)
                have HS4 := hid (HSX.out.below HB1.out)
                have hc1 := HLC.out _ _ _ HS4.out
                have hw1 := HB1.out.size
                clear hown1 hgr1 hc
                go_wp2_with (at_builtin; refine wpList_append_own _ rfl _ _ 29 rfl W.heap.size 9 i0 (.string ByteArray.empty) 1 16 Tryz.underlying29 hi hz0 hz1 hz2 rfl (by decide) _ _ _ rfl (HO1.out.alloc _) ⟨W1.heap.size, 0, none⟩ 1 1 [.string q] rfl rfl ?c1 ?c2 ?c3 ?c4 ?c5 ?_)
                case c1 =>
                  intro t u ht
                  match t, ht with
                  | 0, ht => simp at ht; subst ht; simp [Addr.add]
                case c2 => intro u hu; simp at hu; subst hu; rfl
                case c3 => unfold maxLen; omega
                case c4 => omega
                case c5 => simp; omega
                intro v2 W2 hown2 hgr2 _
                have HO2 := hid hown2
                have HB2 := hid (rel_app HB1.out.size HB1.out HO1.out (Below.refl _ _) hgr2)
                have HS5 := hid (HSX.out.below HB2.out)
                have HCL2 := hid (owned_at HS5.out.own)
                have hw2 := HB2.out.size
                clear hown2 hgr2 hc1
                go_wp2_with (at_builtin; refine wpList_append_own _ rfl _ _ 29 rfl W.heap.size 9 i0 (.string ByteArray.empty) 1 16 Tryz.underlying29 hi hz0 hz1 hz2 rfl (by decide) _ _ _ rfl HO2.out _ _ _ [] rfl ?c0 ?c1 ?c2 ?c3 ?c4 ?c5 ?_)
                case c0 => simp
                case c1 => intro t u ht; simp at ht
                case c2 => intro u hu; cases hu
                case c3 => unfold maxLen; omega
                case c4 => omega
                case c5 => exact hw2
                intro v3 W3 hown3 hgr3 _
                have HB3 := hid (HB2.out.grown hgr3 hw2 (fun t ht => (HO2.out.lt t ht).1))
                have HS6 := hid (HSX.out.below HB3.out)
                have HO3 := hid (show W3.ownsRow w.heap.size 9 1 v3 (X.take (X.length) ++ q :: X.drop (X.length)).length ((X.take (X.length) ++ q :: X.drop (X.length)).map Value.string) by
                  have h := owns_mono hown3 (HSX.out.bl.size)
                  have e1 : (X.take (X.length) ++ q :: X.drop (X.length)).length = X.length + 1 := by simp
                  rw [e1]
                  simpa using h)
                clear hown3 hgr3
                go_wp2_with fail
                go_roundw
                case rel => exact ⟨k + 1, X.take (X.length) ++ q :: X.drop (X.length), by omega, by simp; omega, by go_num, HKX, hid ⟨HO3.out, (fun h => by simp at h), HS6.out.bl, HS6.out.ls⟩⟩
                case measure => simp [intOf]; omega
      · rw [decide_eq_false hv] at HIV
        have HK2 := hid (HKN.out hv)
        clear hv
        go_wp2_with fail
        refine (HIV.out _).mono ?_
        rintro e w1 ⟨rfl, hb1⟩
        have HS1 := hid (HS.out.below hb1)
        clear hb1 hcell
        go_wp2_with fail
        go_roundw
        case rel => exact ⟨k + 1, X, by omega, by omega, by go_num, HK2, HS1⟩
        case measure => simp [intOf]; omega
    · have hke : k = L.length := by omega
      subst hke
      go_wp2_with fail
      go_ret
      exact ⟨_, X, rfl, HS.out.own, HK.out, HS.out.bl⟩
end Ve
end Go.Proofs.YtnkgjddkdikikaaGreatDoor
namespace Go.Proofs.YtnkgjddkdikikaaGreatDoor
open Go.RowKit
namespace Ve
def splitH (l : List UInt8) : List UInt8 := if pathErr l = 0 then pathH l else []
def splitN (l : List UInt8) : Int := if pathErr l = 0 then pathN l else 0
theorem suf_fits {l : List UInt8} (h : pathErr l = 0) (hs : sufE l = true) : sufOk (lastOf l) = true := by
  cases ho : sufOk (lastOf l)
  · exfalso
    unfold pathErr at h
    cases hb : badE l
    · rw [hb] at h
      cases hl : longE l
      · rw [hl, hs, ho] at h; cases h
      · rw [hl] at h; cases h
    · rw [hb] at h; cases h
  · rfl
theorem split_none {l : List UInt8} (h : pathErr l = 0) (he : elems l = [l]) : splitH l = l ∧ splitN l = 0 := by
  have hu : sufE l = false := by unfold sufE; rw [he]; rfl
  unfold splitH splitN pathH pathN
  rw [if_pos h, if_pos h, hu]
  exact ⟨rfl, rfl⟩
theorem split_pos {l : List UInt8} {k : Nat} (h : pathErr l = 0) (he : elems l = elems (l.take k) ++ [l.drop (k + 1)]) (hn : 0 < sufV (l.drop (k + 1))) : splitH l = l.take k ∧ splitN l = sufV (l.drop (k + 1)) := by
  obtain ⟨h1, h2, h3⟩ := slash_last he
  rw [← h2] at hn ⊢
  have hk : likeB (lastOf l) = true := by
    cases e : likeB (lastOf l)
    · unfold sufV at hn; rw [e] at hn; simp at hn
    · rfl
  have hu : sufE l = true := by unfold sufE; rw [hk, decide_eq_true h1]; rfl
  have ho := suf_fits h hu
  have hv : sufV (lastOf l) = (num (restOf (lastOf l))).1 := by unfold sufV; rw [hk, ho]; rfl
  unfold splitH splitN pathH pathN
  rw [if_pos h, if_pos h, hu, hv]
  exact ⟨h3, rfl⟩
theorem split_zero {l : List UInt8} {k : Nat} (h : pathErr l = 0) (he : elems l = elems (l.take k) ++ [l.drop (k + 1)]) (hn : ¬ 0 < sufV (l.drop (k + 1))) : splitH l = l ∧ splitN l = 0 := by
  obtain ⟨h1, h2, h3⟩ := slash_last he
  rw [← h2] at hn
  have hu : sufE l = false := by
    cases e : sufE l
    · rfl
    · exfalso
      have ho := suf_fits h e
      have hk : likeB (lastOf l) = true := by
        unfold sufE at e
        simp only [Bool.and_eq_true] at e
        exact e.2
      have hv : sufV (lastOf l) = (num (restOf (lastOf l))).1 := by unfold sufV; rw [hk, ho]; rfl
      have := suf_pos ho
      omega
  unfold splitH splitN pathH pathN
  rw [if_pos h, if_pos h, hu]
  exact ⟨rfl, rfl⟩
theorem slash_is {c : UInt8} : ((c.toNat : Int) == 47) = true ↔ c = 47 := by
  rw [beq_iff_eq]
  have : (47 : UInt8).toNat = 47 := rfl
  constructor
  · intro h; exact UInt8.toNat_inj.1 (by omega)
  · intro h; rw [h]; rfl
set_option maxRecDepth 100000 in
set_option maxHeartbeats 4000000 in
theorem splitPath_any (s : ByteArray) (w : World) (hs : s.size < 4294967281) :
    Calls Tryz.prog 255 #[.string s] w fun e w' => ∃ H : ByteArray, e = .returned (.tuple #[.string H, .int .i64 (splitN s.data.toList)]) ∧ H.data.toList = splitH s.data.toList ∧ Below w.heap.size w w' := by
  have HP := hid (pathError_any s w hs)
  by_cases h0 : pathErr s.data.toList = 0
  · have H0 := hid h0
    rw [h0] at HP
    clear h0
    go_enter Tryz.func255, Tryz.ntmps255
    go_wp2_with fail
    refine HP.out.mono ?_
    rintro e w1 ⟨rfl, hb⟩
    have HB := hid hb
    clear hb
    go_wp2_with fail
    go_loop [4] (fun i => ∃ j : Nat, j ≤ s.size ∧ i = .int .i64 ((j : Int) - 1) ∧ Hid (∀ t (ht : t < s.size), j ≤ t → s[t] ≠ 47)) (fun i => (intOf i + 1).toNat)
    case atStart => exact ⟨s.size, Nat.le_refl _, rfl, hid (fun t ht h => absurd ht (by omega))⟩
    case round =>
      obtain ⟨j, hj, rfl, HN⟩ := hrel
      by_cases hz : j = 0
      · subst hz
        have HR := hid (split_none H0.out (slash_none (fun t ht => HN.out t (by simpa using ht) (Nat.zero_le _))))
        go_wp2_with fail
        go_ret2
        exact ⟨s, by rw [HR.out.2]; rfl, HR.out.1.symm, HB.out⟩
      · obtain ⟨k, rfl⟩ : ∃ k, j = k + 1 := ⟨j - 1, by omega⟩
        have hki : ((k + 1 : Nat) : Int) - 1 = (k : Int) := by omega
        rw [hki]
        have hlt : k < s.size := by omega
        have hkb := s[k].toNat_lt
        have h0k : (0 : Int) ≤ (k : Int) := by omega
        cases hc : ((s[k].toNat : Int) == 47)
        · have hcn : ((s[k].toNat : Int) != 47) = true := by rw [bne, hc]; rfl
          have hcp : ¬ (s[k].toNat : Int) = 47 := by simpa using hc
          have HN2 := hid (show ∀ t (ht : t < s.size), k ≤ t → s[t] ≠ 47 from fun t ht h => by
            by_cases e : t = k
            · subst e; intro h2; rw [slash_is.2 h2] at hc; cases hc
            · exact HN.out t ht (by omega))
          go_wp2_with fail
          go_round
          case rel => exact ⟨k, by omega, by go_num, HN2⟩
          case measure => (simp [intOf]; try omega)
        · have hcn : ((s[k].toNat : Int) != 47) = false := by rw [bne, hc]; rfl
          have hcp : (s[k].toNat : Int) = 47 := by simpa using hc
          have HSP := hid (slash_split (l := s.data.toList) (k := k) (by simpa using hlt) (slash_is.1 hc) (fun t ht h => HN.out t (by simpa using ht) (by omega)))
          have HT := hid (show (s.extract (k + 1) s.size).data.toList = s.data.toList.drop (k + 1) from ext_drop s (k + 1))
          have hTs : (s.extract (k + 1) s.size).size ≤ maxLen := by rw [ByteArray.size_extract]; unfold maxLen; omega
          have HSU := hid (suffixOf_any (s.extract (k + 1) s.size) w1 hTs)
          rw [HT.out] at HSU
          have s1 : (0 : Int) ≤ (k : Int) + 1 := by omega
          have s2 : (k : Int) + 1 ≤ (s.size : Int) := by omega
          have s3 : (k : Int) ≤ (s.size : Int) := by omega
          have HK := hid (show (s.extract 0 k).data.toList = s.data.toList.take k by rw [extract_list]; simp)
          by_cases hn : 0 < sufV (s.data.toList.drop (k + 1))
          · have HR := hid (split_pos H0.out HSP.out hn)
            generalize sufV (s.data.toList.drop (k + 1)) = n at *
            go_wp2_with fail
            refine HSU.out.mono ?_
            rintro e w' ⟨rfl, rfl⟩
            go_wp2_with fail
            go_ret2
            exact ⟨s.extract 0 k, by rw [HR.out.2]; rfl, HK.out.trans HR.out.1.symm, HB.out⟩
          · have HR := hid (split_zero H0.out HSP.out hn)
            generalize sufV (s.data.toList.drop (k + 1)) = n at *
            go_wp2_with fail
            refine HSU.out.mono ?_
            rintro e w' ⟨rfl, rfl⟩
            go_wp2_with fail
            go_ret2
            exact ⟨s, by rw [HR.out.2]; rfl, HR.out.1.symm, HB.out⟩
  · have HR := hid (show splitH s.data.toList = [] ∧ splitN s.data.toList = 0 from ⟨by unfold splitH; rw [if_neg h0], by unfold splitN; rw [if_neg h0]⟩)
    rw [HR.out.2]
    have hpos : (0 : Int) < (pathErr s.data.toList : Int) := by omega
    generalize (pathErr s.data.toList : Int) = c at *
    clear h0
    go_enter Tryz.func255, Tryz.ntmps255
    go_wp2_with fail
    refine HP.out.mono ?_
    rintro e w1 ⟨rfl, hb⟩
    have HB := hid hb
    clear hb
    go_wp2_with fail
    go_ret2
    exact ⟨⟨#[]⟩, rfl, HR.out.1.symm, HB.out⟩
end Ve
end Go.Proofs.YtnkgjddkdikikaaGreatDoor
