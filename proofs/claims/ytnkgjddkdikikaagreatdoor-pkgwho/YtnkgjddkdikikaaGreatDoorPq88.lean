/-
  PgC PgE
-/
import Derived.Test.YtnkgjddkdikikaaGreatDoorPq2
import Derived.Test.YtnkgjddkdikikaaGreatDoorPq3
import Derived.Test.YtnkgjddkdikikaaGreatDoorPq4
import Derived.Test.YtnkgjddkdikikaaGreatDoorPq7
import Derived.Test.YtnkgjddkdikikaaGreatDoorPq10
import Derived.Test.YtnkgjddkdikikaaGreatDoorPq13
import Derived.Test.YtnkgjddkdikikaaGreatDoorPq23
import Derived.Test.YtnkgjddkdikikaaGreatDoorPq27
import Derived.Test.YtnkgjddkdikikaaGreatDoorPq26
import Derived.Test.YtnkgjddkdikikaaGreatDoorPq29
import Derived.Test.YtnkgjddkdikikaaGreatDoorPq31
import Derived.Test.YtnkgjddkdikikaaGreatDoorPq12
import Derived.Test.YtnkgjddkdikikaaGreatDoorPq5
import Derived.Test.YtnkgjddkdikikaaGreatDoorPq24
import Derived.Test.YtnkgjddkdikikaaGreatDoorPq49
import Derived.Test.YtnkgjddkdikikaaGreatDoorPq14
import Derived.Test.YtnkgjddkdikikaaGreatDoorPq84
import Derived.Test.YtnkgjddkdikikaaGreatDoorPq25
import Derived.Test.YtnkgjddkdikikaaGreatDoorPq87
import Derived.Test.YtnkgjddkdikikaaGreatDoorPq21
import Derived.Test.YtnkgjddkdikikaaGreatDoorPq30
import Derived.Test.YtnkgjddkdikikaaGreatDoorPq32
namespace Go.Proofs.YtnkgjddkdikikaaGreatDoor
open Go.RowKit
namespace Ve
theorem conS_is (X : List ByteArray) (p : ByteArray) : Lib.containsS X p = inB p X := by
  rw [Bool.eq_iff_iff, Lib.containsS_iff, inB_iff]
theorem con_any (X : List ByteArray) (p : ByteArray) (v : Value) (w : World) (hX : X.length ≤ 1000000) (hv : TxAt w v X) :
    Calls Tryz.prog 170 #[v, .string p] w fun e w' => e = .returned (.bool (inB p X)) ∧ w' = w := by
  obtain ⟨a, c, rfl, hc, h⟩ := hv
  cases X with
  | nil => exact Tryz.slices_Contains_string_empty a c p w
  | cons x r =>
    obtain ⟨b, o, rfl, h2⟩ := h (by simp)
    have hcon := Tryz.slices_Contains_string b o (x :: r).length c (x :: r) p w (Nat.le_refl _) (by omega) (fun j hj => by
      rw [h2 j hj, List.getD_eq_getElem?_getD, List.getElem?_eq_getElem hj]; rfl)
    rw [List.take_length, conS_is] at hcon
    exact hcon
set_option maxRecDepth 100000 in
set_option maxHeartbeats 4000000 in
theorem hav_any (Q : List Raw) (L : List Ent) (R : List Bm) (p : ByteArray) (v rv : Value) (w : World) (hL : L.length ≤ 1000) (sh : ∀ e, e ∈ L → ShE e) (hR : R.length ≤ 1000) (hms : ∀ m, m ∈ R → m.1.size < 999999 ∧ ∃ k : Nat, idxOf (isM m) Q = (k : Int)) (I : Ixs w v Q L) (hr : MsAt w rv R) (h19 : (hvL Q L R p).length ≤ 19) :
    Calls Tryz.prog 107 #[v, rv, .string p] w fun e w' => ∃ u D, e = .returned u ∧ Falls plen (hvL Q L R p) D ∧ Mr w w' u D := by
  have HPK := hid (fun m (hm : m ∈ R) W (h : Below w.heap.size w W) => show Calls Tryz.prog 102 #[v, .agg #[.string m.1, .string m.2]] W fun e w' => ∃ u, e = .returned u ∧ w'.ownsRow W.heap.size 9 1 u (pkOf Q L m).length ((pkOf Q L m).map Value.string) ∧ Below W.heap.size W w' by
    obtain ⟨h1, k, h2⟩ := hms m hm
    exact pks_any Q L m k v W hL sh h1 (I.below h) h2)
  have HCN := hid (fun m (hm : m ∈ R) u W (h : TxAt W u (pkOf Q L m)) => con_any (pkOf Q L m) p u W (by
    obtain ⟨_, k, h2⟩ := hms m hm
    obtain ⟨_, hl, _, h3, _⟩ := pk_is I h2
    rw [h3, List.length_map]
    have := (sh _ (List.getElem_mem hl)).pn
    omega) h)
  have HMR := hid (fun W (h : Below w.heap.size w W) => hr.below h)
  have HNX := hid (fun k (hk : k < R.length) => hv_next (Q := Q) (L := L) (p := p) hk)
  have HLE := hid (fun k => hv_le Q L R p k)
  obtain ⟨a, c, hv1, -⟩ := id I.es
  subst hv1
  obtain ⟨ra, rc, hrv, -⟩ := id hr
  subst hrv
  obtain ⟨i0, hi0, hz0, hz1, hz2⟩ := info_parts infoMod
  have H19 := hid h19
  clear I hr hms sh hL h19
  go_enter Tryz.func107, Tryz.ntmps107
  go_wp2_with fail
  go_loopw [7, 12] (fun ov iv wr => ∃ i : Nat, i ≤ R.length ∧ iv = .int .i64 i ∧ Hid (wr.ownsRow w.heap.size 35 2 ov (hvL Q L (R.take i) p).length (flatM (hvL Q L (R.take i) p))) ∧ Hid (Below w.heap.size w wr)) (fun _ iv _ => R.length - (intOf iv).toNat)
  case atStart => exact ⟨0, Nat.zero_le _, rfl, hid (World.ownsRow_nil _ _ _ _), hid (Below.refl _ _)⟩
  case round =>
    obtain ⟨i, hi, rfl, HOW, HBr⟩ := hrel
    by_cases hlt : i < R.length
    · have hiI := ix_lt hlt
      have hii := ix_pos i
      have HLI := hid hlt
      obtain ⟨xb, xo, hxa, y0, y1⟩ := (HMR.out _ HBr.out).cells hlt
      subst hxa
      have HN := hid (HNX.out i hlt)
      have HP := hid (HPK.out R[i] (List.getElem_mem hlt))
      have HC := hid (HCN.out R[i] (List.getElem_mem hlt))
      have HLN := hid (HLE.out i)
      generalize R[i] = x at *
      obtain ⟨x1, x2'⟩ := x
      obtain ⟨SX, hSX⟩ : ∃ SX, hvL Q L (R.take i) p = SX := ⟨_, rfl⟩
      rw [hSX] at HOW HN HLN
      generalize pkOf Q L (x1, x2') = Y at *
      have HBa := hid ((Below.refl wr.heap.size wr).alloc (Nat.le_refl _) (.cells #[.string x1, .string x2'] 35))
      have HBb := hid (HBr.out.trans (HBa.out.mono HBr.out.size))
      have HNW := hid (heap_new wr (.cells #[.string x1, .string x2'] 35))
      have HOa := hid (owns_below HOW.out HBa.out)
      clear hSX hlt HOW
      go_wp2_with fail
      refine (HP.out _ HBb.out).mono ?_
      rintro e w2 ⟨u, rfl, hu, hb⟩
      have HB2 := hid (HBb.out.trans (hb.mono HBb.out.size))
      have HO2 := hid (owns_below HOa.out hb)
      have HN2 := hid ((hb.block _ (lt_of_blk HNW.out)).trans HNW.out)
      have HC2 := hid (HC.out u w2 (own_tx hu))
      obtain ⟨ua, uc, hus⟩ := own_slN hu
      subst hus
      clear hu hb HP HC HNW HOa
      go_wp2_with fail
      refine HC2.out.mono ?_
      rintro e w3 ⟨rfl, rfl⟩
      clear HC2
      have s0 : w3.cell? ⟨wr.heap.size, 0, none⟩ = some (.string x1) := by rw [Lib.cell_of_heap HN2.out]; rfl
      have s1 : w3.cell? ⟨wr.heap.size, 1, none⟩ = some (.string x2') := by rw [Lib.cell_of_heap HN2.out]; rfl
      cases hin : inB p Y
      · rw [hin, if_neg (by simp)] at HN
        clear hin
        go_wp2_with fail
        go_roundw
        case rel => exact ⟨i + 1, HLI.out, by first | exact nr_idx i | exact nx_idx HLI.out (by omega : R.length ≤ 1000000), by rw [HN.out]; exact HO2, HB2⟩
        case measure => first | exact nr_meas HLI.out | exact nx_meas HLI.out (by omega : R.length ≤ 1000000)
      · rw [hin, if_pos rfl] at HN
        have hsx := HLN.out
        clear hin
        go_wp2_with (at_builtin; refine wpList_append_own _ rfl _ _ 40 rfl w.heap.size 35 i0 _ 2 32 Tryz.underlying40 hi0 hz0 hz1 hz2 rfl (by decide) _ _ _ rfl (HO2.out.alloc _) ⟨w3.heap.size, 0, none⟩ 1 1 [.string x1, .string x2'] rfl rfl ?c1 ?c2 ?c3 ?c4 ?c5 ?_)
        case c1 => exact World.news_of_block (cs := #[.string x1, .string x2']) (heap_new _ _)
        case c2 => intro u hu; simp at hu; rcases hu with rfl | rfl <;> rfl
        case c3 => unfold maxLen; omega
        case c4 => omega
        case c5 => have := HB2.out.size; simp; omega
        intro v' w6 hown hgrow _
        have HR3 := hid (rel_app2 HB2.out.size HB2.out HO2.out (Below.refl _ _) hgrow)
        have HO4 := hid (show w6.ownsRow w.heap.size 35 2 v' (SX ++ [(x1, x2')]).length (flatM (SX ++ [(x1, x2')])) by rw [List.length_append, flatM_app]; exact hown)
        clear hown hgrow
        go_wp2_with fail
        go_roundw
        case rel => exact ⟨i + 1, HLI.out, by first | exact nr_idx i | exact nx_idx HLI.out (by omega : R.length ≤ 1000000), by rw [HN.out]; exact HO4, HR3⟩
        case measure => first | exact nr_meas HLI.out | exact nx_meas HLI.out (by omega : R.length ≤ 1000000)
    · have hiI := ix_nlt hlt
      have HTR := hid (show R.take i = R from List.take_of_length_le (by omega))
      rw [HTR.out] at HOW
      have HMM := hid (mr_own HOW.out HBr.out)
      obtain ⟨_, ma, mc, hmv, _⟩ := HMM.out
      subst hmv
      have HSS := hid (show Calls Tryz.prog 171 #[.slice ma (hvL Q L R p).length mc, .func (.func 172) #[] #[]] wr fun e w' => e = .returned (.tuple #[]) ∧ ∃ D, Falls plen (hvL Q L R p) D ∧ D.length = (hvL Q L R p).length ∧ Mr w w' (.slice ma (hvL Q L R p).length mc) D from
        ssf_in ma _ mc wr H19.out _ (by
          obtain ⟨h0, a', c', e, hc, hk⟩ := HMM.out
          injection e with e1 e2 e3
          subst e1 e3
          rcases hk with ⟨hn, hz⟩ | ⟨g, rfl, hM⟩
          · rw [hn]
            refine (insP_nil ma mc wr).mono ?_
            rintro e w1 ⟨rfl, rfl⟩
            exact ⟨rfl, [], ⟨List.Pairwise.nil, fun n => rfl⟩, rfl, h0, ma, mc, rfl, Nat.zero_le _, Or.inl ⟨rfl, hz⟩⟩
          · refine (ins_mw w wr g mc _ (by have := H19.out; omega) hM).mono ?_
            rintro e w1 ⟨rfl, D, h1, h2, h3⟩
            exact ⟨rfl, D, h1, h2, h3.bl, _, mc, by rw [h2], by rw [h2]; exact hc, Or.inr ⟨g, rfl, h3⟩⟩))
      clear hlt HOW HMM
      generalize (hvL Q L R p).length = hn at *
      go_wp2_with fail
      refine HSS.out.mono ?_
      rintro e w1 ⟨rfl, D, h1, h2, h3⟩
      have HDD := hid (⟨D, h1, h3⟩ : ∃ D, Falls plen (hvL Q L R p) D ∧ Mr w w1 (.slice ma hn mc) D)
      clear h1 h2 h3
      go_wp2_with fail
      go_ret
      obtain ⟨D, h1, h3⟩ := HDD.out
      exact ⟨_, D, rfl, h1, h3⟩
end Ve
end Go.Proofs.YtnkgjddkdikikaaGreatDoor
namespace Go.Proofs.YtnkgjddkdikikaaGreatDoor
open Go.RowKit
namespace Ve
theorem bxG {W : World} {g : Nat} {x y : Value} {T : TypeId} (h : W.heap[g]? = some (.cells #[x, y] T (0, 0))) : W.cell? ⟨g, 0, none⟩ = some x ∧ W.cell? ⟨g, 1, none⟩ = some y ∧ ∀ o, W.frozen? ⟨g, o, none⟩ = false :=
  ⟨by rw [Lib.cell_of_heap h]; rfl, by rw [Lib.cell_of_heap h]; rfl, fun o => Lib.frozen_of_heap h o⟩
theorem strs_no {a b : ByteArray} {k : Nat} {T : TypeId} {v : Value} (h : (#[Value.string a, .string b] : Array Value)[k]? = some (.iface T v)) : False := by
  match k, h with
  | 0, h => simp at h
  | 1, h => simp at h
  | k + 2, h => simp at h
theorem cell_set_neG {W : World} {b o g p : Nat} {x v : Value} (h : W.cell? ⟨b, o, none⟩ = some v) (hne : b ≠ g) : (W.setCell ⟨g, p, none⟩ x).cell? ⟨b, o, none⟩ = some v := by
  unfold World.cell? at h ⊢
  rw [Below.heap_setCell _ _ _ _ hne]
  exact h
theorem ErrAt.setS {W : World} {A : Nat → Addr} {y : Value} {c : Nat} {o : Option Nat} {g : Nat} {a' b' : ByteArray} {T : TypeId} (h : ErrAt W A y c o) (hg : W.heap[g]? = some (.cells #[.string a', .string b'] T (0, 0))) (a b : Value) : ErrAt ((W.setCell ⟨g, 0, none⟩ a).setCell ⟨g, 1, none⟩ b) A y c o := by
  cases o with
  | none => exact h
  | some i =>
    obtain ⟨h0, f, rfl, h1, h2⟩ := h
    have hne : f ≠ g := fun e => by
      subst e
      obtain ⟨a9, ha⟩ := errA_ne A h0
      rw [Lib.cell_of_heap hg, ha] at h2
      exact strs_no h2
    exact ⟨h0, f, rfl, cell_set_neG (cell_set_neG h1 hne) hne, cell_set_neG (cell_set_neG h2 hne) hne⟩
set_option maxRecDepth 100000 in
set_option maxHeartbeats 4000000 in
theorem pof_any (Q : List Raw) (L : List Ent) (R : List Bm) (p : ByteArray) (v rv : Value) (A : Nat → Addr) (m : Int) (w : World) (hL : L.length ≤ 200) (sh : ∀ e, e ∈ L → ShE e) (hq : shQ Q) (hR : R.length ≤ 1000) (h19 : (hvL Q L R p).length ≤ 19) (hp : p.size ≤ 1000) (S : Te w A m) (D : Ds w A) (I : Ixs w v Q L) (hr : MsAt w rv R) :
    Calls Tryz.prog 45 #[v, rv, .string p] w fun e w' => ∃ x, e = .returned (.tuple #[.agg #[.string (ofM Q L R p).1, .string (ofM Q L R p).2], x]) ∧ ErrAt w' A x (ofF Q L R p).1 (ofF Q L R p).2 ∧ Below w.heap.size w w' := by
  have HB0 := hid ((Below.refl w.heap.size w).alloc (Nat.le_refl _) (.cells #[.string ⟨#[]⟩, .string ⟨#[]⟩] 35))
  have HE0 := hid (heap_new w (.cells #[.string ⟨#[]⟩, .string ⟨#[]⟩] 35))
  have HIC := hid (fun W (h : Below w.heap.size w W) => icheck_any Q L v A m W (by omega) sh (S.below h) (I.below h))
  have HLK := hid (fun W (h : Below w.heap.size w W) => lkp_any p A m W (by omega) (S.below h) (D.below h))
  have HCM := hid (fun W (h : Below w.heap.size w W) => cmods_any Q R v rv A m W (by rw [I.ln]; omega) (by omega) (S.below h) (I.es.below h) (hr.below h))
  have HHV := hid (fun (hs : (slF Q R).1 = 0) W (h : Below w.heap.size w W) => hav_any Q L R p v rv W (by omega) sh hR (fun x hx => by
    obtain ⟨i, hi, rfl⟩ := List.getElem_of_mem hx
    obtain ⟨k, hk⟩ := slF_all hs i hi
    obtain ⟨hk2, _, h3, _⟩ := pk_is I hk
    refine ⟨?_, k, hk⟩
    rw [← h3]
    have := (hq _ (List.getElem_mem hk2)).1
    omega) (I.below h) (hr.below h) h19)
  have HG4 := hid (fun W (h : Below w.heap.size w W) => cell_below h S.sen.g4)
  have hn4 : ¬ w.heap.size = 2 := by have := lt_of_cell S.sen.g4; simp at this; omega
  have hn5 : ¬ 2 = w.heap.size := fun h => hn4 h.symm
  have HPS := hid (fun (hc : (chk Q L).1 = 0) (hs : (slF Q R).1 = 0) x (hx : x ∈ hvL Q L R p) => show 0 < plen x from by
    have h1 := (hv_mem.1 hx).1
    obtain ⟨i, hi, rfl⟩ := List.getElem_of_mem h1
    obtain ⟨k, hk⟩ := slF_all hs i hi
    obtain ⟨hk2, _, h3, _⟩ := pk_is I hk
    have h4 := path_pos ((good_of I hc).path _ (List.getElem_mem hk2))
    rw [len_eq, h3] at h4
    exact h4)
  obtain ⟨a, c, hv1, -⟩ := id I.es
  subst hv1
  obtain ⟨ra, rc, hrv, -⟩ := id hr
  subst hrv
  clear S D I hr hq sh
  by_cases hc : (chk Q L).1 = 0
  · by_cases hl : likeE p.data.toList = 0
    · have hl2 : ¬ (pathErr p.data.toList ≠ 0 ∧ pathErr p.data.toList ≠ 4) := fun h => by
        unfold likeE at hl
        rw [if_neg h.2] at hl
        exact h.1 hl
      by_cases hs : (slF Q R).1 = 0
      · have hF : ofF Q L R p = if (bstN Q L p R R.length).1.size = 0 then (5, none) else (0, none) := by
          unfold ofF; rw [if_neg (by simp [hc]), if_neg hl2, if_neg (by simp [hs])]
        have HBN := hid (bstN_hv Q L p R)
        have HTP := hid (fun D (h : Falls plen (hvL Q L R p) D) => falls_top (z := ((⟨#[]⟩, ⟨#[]⟩) : Bm)) rfl (HPS.out hc hs) h)
        have HHV2 := hid (HHV.out hs)
        have HS0 := hid (show codeE (nonE Q R) R.length = 0 from hs)
        have HFF := hid hF
        have HMM := hid (show ofM Q L R p = if (ofF Q L R p).1 = 0 then bstN Q L p R R.length else (⟨#[]⟩, ⟨#[]⟩) from rfl)
        have HCC := hid hc
        have HLL := hid hl
        rw [HBN.out] at HFF HMM
        generalize (hvL Q L R p).foldl (topS plen) (⟨#[]⟩, ⟨#[]⟩) = bt at *
        generalize ofF Q L R p = F at *
        generalize ofM Q L R p = M at *
        clear hc hl hl2 hs hF HPS HHV
        go_enter Tryz.func45, Tryz.ntmps45
        go_wp2_with fail
        refine (HIC.out _ HB0.out).mono ?_
        rintro e w1 ⟨x, rfl, he, hb⟩
        rw [HCC.out] at he
        have HB1 := hid (HB0.out.trans (hb.mono HB0.out.size))
        have HE1 := hid ((hb.block _ (lt_of_blk HE0.out)).trans HE0.out)
        rcases he.kind with ⟨-, rfl⟩ | ⟨h0, -⟩
        · clear he hb HIC HB0 HE0
          go_wp2_with fail
          have HLK1 := hid (HLK.out w1 HB1.out)
          rw [HLL.out, errA0] at HLK1
          refine HLK1.out.mono ?_
          rintro e w2 ⟨rfl, hb⟩
          have HB2 := hid (HB1.out.trans (hb.mono HB1.out.size))
          have HE2 := hid ((hb.block _ (lt_of_blk HE1.out)).trans HE1.out)
          clear hb HLK1 HLK HB1 HE1
          go_wp2_with fail
          refine (HCM.out w2 HB2.out).mono ?_
          rintro e w3 ⟨x, rfl, he, hb⟩
          rw [HS0.out] at he
          have HB3 := hid (HB2.out.trans (hb.mono HB2.out.size))
          have HE3 := hid ((hb.block _ (lt_of_blk HE2.out)).trans HE2.out)
          rcases he.kind with ⟨-, rfl⟩ | ⟨h0, -⟩
          · clear he hb HCM HB2 HE2
            go_wp2_with fail
            refine (HHV2.out w3 HB3.out).mono ?_
            rintro e w4 ⟨u, D, rfl, hfa, hM⟩
            have HB4 := hid (HB3.out.trans (hM.1.mono HB3.out.size))
            have HE4 := hid ((hM.1.block _ (lt_of_blk HE3.out)).trans HE3.out)
            have HMS := hid hM.ms
            obtain ⟨ua, uc, hus⟩ := hM.sl
            subst hus
            have HT := hid (HTP.out D hfa)
            clear hM hfa HHV2 HTP HB3 HE3
            rcases HT.out with ⟨rfl, hz⟩ | ⟨r, rfl, hz⟩
            · have hF2 : F = (5, none) := by rw [HFF.out, hz]; rfl
              have hM2 : M = (⟨#[]⟩, ⟨#[]⟩) := by rw [HMM.out, hF2]; rfl
              subst hF2 hM2
              have g4 := HG4.out _ HB4.out
              obtain ⟨r0, r1, rf⟩ := bxG HE4.out
              have rz := lt_of_blk HE4.out
              clear hz HFF HMM HT
              go_wp2_with fail
              go_region
              all_goals (try go_wp2)
              all_goals
                refine bodyPost_ret (v := .tuple #[.agg #[.string ⟨#[]⟩, .string ⟨#[]⟩], .iface 311 (.pointer (some (A 4)))]) (by simp [results, Tryz.results45, go_sem, r0, r1]) rfl ⟨_, rfl, rfl, ?_⟩
                exact ((HB4.out.setCell (Nat.le_refl _) _).setCell (Nat.le_refl _) _).drew
            · have hz' : ¬ bt.1.size = 0 := by have h : 0 < bt.1.size := hz; omega
              have hF2 : F = (0, none) := by rw [HFF.out, if_neg hz']
              have hM2 : M = bt := by rw [HMM.out, hF2]; rfl
              subst hF2 hM2
              obtain ⟨xb, xo, hxa, y0, y1⟩ := HMS.out.cells (show 0 < (M :: r).length by simp)
              subst hxa
              have hlz : ¬ ((M :: r).length : Int) = 0 := by rw [List.length_cons]; omega
              have hlp : (0 : Int) < ((M :: r).length : Int) := by rw [List.length_cons]; omega
              simp only [List.getElem_cons_zero, Nat.zero_mul, Nat.add_zero] at y0 y1
              obtain ⟨r0, r1, rf⟩ := bxG HE4.out
              have rz := lt_of_blk HE4.out
              obtain ⟨M1, M2⟩ := M
              simp only at y0 y1
              generalize ((M1, M2) :: r).length = dn at *
              have hb0 : ((dn : Int) == 0) = false := beq_eq_false_iff_ne.2 hlz
              clear hz hz' HFF HMM HT
              go_wp2_with fail
              refine bodyPost_ret (v := .tuple #[.agg #[.string M1, .string M2], .nilIface]) (by simp [results, Tryz.results45, go_sem, r0, r1]) rfl ⟨_, rfl, rfl, ?_⟩
              exact (HB4.out.setCell (Nat.le_refl _) _).setCell (Nat.le_refl _) _
          · exact absurd rfl h0
        · exact absurd rfl h0
      · have hF : ofF Q L R p = slF Q R := by
          unfold ofF; rw [if_neg (by simp [hc]), if_neg hl2, if_pos hs]
        have hM : ofM Q L R p = (⟨#[]⟩, ⟨#[]⟩) := by unfold ofM; rw [hF, if_neg hs]
        rw [hF, hM]
        have HS0 := hid hs
        have HCC := hid hc
        have HLL := hid hl
        clear hc hl hl2 hs hF hM HPS HHV
        go_enter Tryz.func45, Tryz.ntmps45
        go_wp2_with fail
        refine (HIC.out _ HB0.out).mono ?_
        rintro e w1 ⟨x, rfl, he, hb⟩
        rw [HCC.out] at he
        have HB1 := hid (HB0.out.trans (hb.mono HB0.out.size))
        have HE1 := hid ((hb.block _ (lt_of_blk HE0.out)).trans HE0.out)
        rcases he.kind with ⟨-, rfl⟩ | ⟨h0, -⟩
        · clear he hb HIC HB0 HE0
          go_wp2_with fail
          have HLK1 := hid (HLK.out w1 HB1.out)
          rw [HLL.out, errA0] at HLK1
          refine HLK1.out.mono ?_
          rintro e w2 ⟨rfl, hb⟩
          have HB2 := hid (HB1.out.trans (hb.mono HB1.out.size))
          have HE2 := hid ((hb.block _ (lt_of_blk HE1.out)).trans HE1.out)
          clear hb HLK1 HLK HB1 HE1
          go_wp2_with fail
          refine (HCM.out w2 HB2.out).mono ?_
          rintro e w3 ⟨x, rfl, he, hb⟩
          have HB3 := hid (HB2.out.trans (hb.mono HB2.out.size))
          have HE3 := hid ((hb.block _ (lt_of_blk HE2.out)).trans HE2.out)
          have HEE := hid (show ErrAt w3 A x (slF Q R).1 (slF Q R).2 from he)
          rcases he.kind with ⟨h0, -⟩ | ⟨-, T', ea, rfl⟩
          · exact absurd h0 HS0.out
          · obtain ⟨r0, r1, rf⟩ := bxG HE3.out
            have rz := lt_of_blk HE3.out
            clear he hb
            go_wp2_with fail
            refine bodyPost_ret (v := .tuple #[.agg #[.string ⟨#[]⟩, .string ⟨#[]⟩], .iface T' (.pointer (some ea))]) (by simp [results, Tryz.results45, go_sem, r0, r1]) rfl ⟨_, rfl, HEE.out.setS HE3.out _ _, ?_⟩
            exact (HB3.out.setCell (Nat.le_refl _) _).setCell (Nat.le_refl _) _
        · exact absurd rfl h0
    · have hl2 : pathErr p.data.toList ≠ 0 ∧ pathErr p.data.toList ≠ 4 := by
        unfold likeE at hl
        split at hl
        · exact absurd rfl hl
        · next h => exact ⟨hl, h⟩
      have hle : likeE p.data.toList = pathErr p.data.toList := by unfold likeE; rw [if_neg hl2.2]
      have hF : ofF Q L R p = (pathErr p.data.toList, none) := by
        unfold ofF; rw [if_neg (by simp [hc]), if_pos hl2]
      have hM : ofM Q L R p = (⟨#[]⟩, ⟨#[]⟩) := by unfold ofM; rw [hF, if_neg hl2.1]
      rw [hF, hM]
      rw [hle] at HLK
      have HCC := hid hc
      have HLL := hid hl2.1
      obtain ⟨a9, ha9⟩ := errA_ne A hl2.1
      have HA9 := hid ha9
      rw [ha9] at HLK
      clear hc hl hl2 hF hM HPS HHV ha9 hle
      go_enter Tryz.func45, Tryz.ntmps45
      go_wp2_with fail
      refine (HIC.out _ HB0.out).mono ?_
      rintro e w1 ⟨x, rfl, he, hb⟩
      rw [HCC.out] at he
      have HB1 := hid (HB0.out.trans (hb.mono HB0.out.size))
      have HE1 := hid ((hb.block _ (lt_of_blk HE0.out)).trans HE0.out)
      rcases he.kind with ⟨-, rfl⟩ | ⟨h0, -⟩
      · clear he hb HIC HB0 HE0
        go_wp2_with fail
        refine (HLK.out w1 HB1.out).mono ?_
        rintro e w2 ⟨rfl, hb⟩
        have HB2 := hid (HB1.out.trans (hb.mono HB1.out.size))
        have HE2 := hid ((hb.block _ (lt_of_blk HE1.out)).trans HE1.out)
        obtain ⟨r0, r1, rf⟩ := bxG HE2.out
        have rz := lt_of_blk HE2.out
        clear hb HLK HB1 HE1
        go_wp2_with fail
        refine bodyPost_ret (v := .tuple #[.agg #[.string ⟨#[]⟩, .string ⟨#[]⟩], .iface 311 (.pointer (some a9))]) (by simp [results, Tryz.results45, go_sem, r0, r1]) rfl ⟨_, rfl, HA9.out.symm, ?_⟩
        exact (HB2.out.setCell (Nat.le_refl _) _).setCell (Nat.le_refl _) _
      · exact absurd rfl h0
  · have hF : ofF Q L R p = chk Q L := by unfold ofF; rw [if_pos hc]
    have hM : ofM Q L R p = (⟨#[]⟩, ⟨#[]⟩) := by unfold ofM; rw [hF, if_neg hc]
    rw [hF, hM]
    have HCC := hid hc
    clear hc hF hM HPS HHV
    go_enter Tryz.func45, Tryz.ntmps45
    go_wp2_with fail
    refine (HIC.out _ HB0.out).mono ?_
    rintro e w1 ⟨x, rfl, he, hb⟩
    have HB1 := hid (HB0.out.trans (hb.mono HB0.out.size))
    have HE1 := hid ((hb.block _ (lt_of_blk HE0.out)).trans HE0.out)
    have HEE := hid he
    rcases he.kind with ⟨h0, -⟩ | ⟨-, T', ea, rfl⟩
    · exact absurd h0 HCC.out
    · obtain ⟨r0, r1, rf⟩ := bxG HE1.out
      have rz := lt_of_blk HE1.out
      clear he hb
      go_wp2_with fail
      refine bodyPost_ret (v := .tuple #[.agg #[.string ⟨#[]⟩, .string ⟨#[]⟩], .iface T' (.pointer (some ea))]) (by simp [results, Tryz.results45, go_sem, r0, r1]) rfl ⟨_, rfl, HEE.out.setS HE1.out _ _, ?_⟩
      exact (HB1.out.setCell (Nat.le_refl _) _).setCell (Nat.le_refl _) _
end Ve
end Go.Proofs.YtnkgjddkdikikaaGreatDoor
