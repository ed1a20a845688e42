/-
  PgD PkI PkK PgB PkJ PkL PkV
-/
import Derived.Laws.OwnMore
import Derived.Test.YtnkgjddkdikikaaGreatDoorPq2
import Derived.Test.YtnkgjddkdikikaaGreatDoorPq3
import Derived.Test.YtnkgjddkdikikaaGreatDoorPq4
import Derived.Test.YtnkgjddkdikikaaGreatDoorPq7
import Derived.Test.YtnkgjddkdikikaaGreatDoorPq10
import Derived.Test.YtnkgjddkdikikaaGreatDoorPq13
import Derived.Test.YtnkgjddkdikikaaGreatDoorPq23
import Derived.Test.YtnkgjddkdikikaaGreatDoorPq27
import Derived.Test.YtnkgjddkdikikaaGreatDoorPq29
import Derived.Test.YtnkgjddkdikikaaGreatDoorPq30
import Derived.Test.YtnkgjddkdikikaaGreatDoorPq31
import Derived.Test.YtnkgjddkdikikaaGreatDoorPq12
import Derived.Test.YtnkgjddkdikikaaGreatDoorPq5
import Derived.Test.YtnkgjddkdikikaaGreatDoorPq14
import Derived.Test.YtnkgjddkdikikaaGreatDoorPq32
import Derived.Test.YtnkgjddkdikikaaGreatDoorPq24
import Derived.Test.YtnkgjddkdikikaaGreatDoorPq26
import Derived.Test.YtnkgjddkdikikaaGreatDoorPq49
import Derived.Test.YtnkgjddkdikikaaGreatDoorPq84
import Derived.Test.YtnkgjddkdikikaaGreatDoorPq21
import Derived.Test.YtnkgjddkdikikaaGreatDoorPq25
namespace Go.Proofs.YtnkgjddkdikikaaGreatDoor
open Go.RowKit Go.Shelf Go.Sort
namespace Ve
theorem cb_lt : ∀ a b : List UInt8, Lib.compareBytes a b < 0 → a < b
  | [], [], h => by simp [Lib.compareBytes] at h
  | [], _ :: _, _ => List.nil_lt_cons _ _
  | _ :: _, [], h => by simp [Lib.compareBytes] at h
  | a :: xs, b :: ys, h => by
    unfold Lib.compareBytes at h
    split at h
    · next h1 => exact List.cons_lt_cons_iff.2 (Or.inl h1)
    · next h1 =>
      split at h
      · simp at h
      · next h2 => exact List.cons_lt_cons_iff.2 (Or.inr ⟨UInt8.le_antisymm (UInt8.not_lt.1 h2) (UInt8.not_lt.1 h1), cb_lt xs ys h⟩)
theorem tx_ris (X : List ByteArray) : tx (risB (bl X)) = X.foldl insT [] := by
  refine ris_one ?_ (fold_ris rsX_nil) fun t => ?_
  · unfold rsX tx
    rw [List.pairwise_map]
    have h1 : (risB (bl X)).Pairwise fun x y => x ≤ y := by
      unfold risB Lib.compact Lib.compactUpTo
      refine List.Pairwise.sublist (List.Sublist.map _ List.filter_sublist) ?_
      have e : (List.range (srtB (bl X)).length).map (fun j => (srtB (bl X)).toArray[j]!) = srtB (bl X) := by
        have := Lib.range_map_get (srtB (bl X)).toArray
        simpa using this
      rw [e]
      exact srtB_le _
    exact (h1.and (risB_nodup (bl X))).imp fun {x y} ⟨ha, hn⟩ => by
      rcases lt_three (ba' x) (ba' y) with h | h | h
      · exact h
      · exact absurd (by have := congrArg (fun z : ByteArray => z.data.toList) h; simpa [ba'] using this) hn
      · have h2 := cb_lt _ _ (of_decide_eq_true h)
        simp only [ba'] at h2
        exact absurd h2 ha
  · rw [fold_mem]
    unfold tx
    rw [List.mem_map]
    constructor
    · rintro ⟨s, hs, rfl⟩
      obtain ⟨x, hx, rfl⟩ := List.mem_map.1 (risB_mem.1 hs)
      exact Or.inr (by rw [show ba' x.data.toList = x from str_ext (by simp [ba'])]; exact hx)
    · rintro (h | h)
      · cases h
      · exact ⟨t.data.toList, risB_mem.2 (List.mem_map.2 ⟨t, h, rfl⟩), str_ext (by simp [ba'])⟩
theorem sortT_own (X : List ByteArray) (v : Value) (w W : World) (hX : X.length ≤ 1000000) (ho : W.ownsRow w.heap.size 9 1 v X.length (X.map Value.string)) (hb : Below w.heap.size w W) :
    Calls Tryz.prog 103 #[v] W fun e w' => e = .returned (.tuple #[]) ∧ w'.ownsRow w.heap.size 9 1 v X.length ((srtB (bl X)).map encStr) ∧ Below w.heap.size w w' := by
  rcases ho.2 with ⟨rfl, hz⟩ | ⟨gb, cap, cur, rfl, hbase, hgb, r1, r2, r3, r4⟩
  · have hss : X = [] := List.eq_nil_of_length_eq_zero hz
    subst hss
    refine (Tryz.slices_Sort_string_none none 0 W).mono ?_
    rintro e w1 ⟨rfl, rfl⟩
    exact ⟨rfl, by simpa [srtB, bl] using World.ownsRow_nil w1 w.heap.size 9 1, hb⟩
  · have hlen : (bl X).length = X.length := bl_len X
    have hH : Holds encStr W gb 0 (bl X).toArray := holds_of_block hgb (by rw [map_bl, hlen]; simpa using r4)
    have hgl : gb < W.heap.size := (Array.getElem?_eq_some_iff.1 hgb).1
    have HS := Tryz.slices_Sort_string gb 0 cap (bl X) W hH hgl (by rw [hlen]; omega)
    rw [hlen] at HS
    refine HS.mono ?_
    rintro e w1 ⟨rfl, nn, os, rfl⟩
    refine ⟨rfl, ?_, hb.grown (grownBy_sorted (w := W) (g := gb) (n := nn) (os := os) (srtB (bl X)).toArray) hb.size (fun j hj => by cases hj; exact hbase)⟩
    have HO := ownsRow_sorted (n := nn) (os := os) (ss := bl X) (ts := srtB (bl X)) (srtB_len _) hbase hgb (by rw [hlen]; exact r1) r2 r3
    rw [hlen] at HO
    exact HO
theorem compT_own (X : List ByteArray) (v : Value) (w W : World) (hX : X.length ≤ 1000000) (ho : W.ownsRow w.heap.size 9 1 v X.length ((srtB (bl X)).map encStr)) (hb : Below w.heap.size w W) :
    Calls Tryz.prog 104 #[v] W fun e w' => ∃ u, e = .returned u ∧ w'.ownsRow w.heap.size 9 1 u (X.foldl insT []).length ((X.foldl insT []).map Value.string) ∧ Below w.heap.size w w' := by
  rw [← tx_ris]
  rcases ho.2 with ⟨rfl, hz⟩ | ⟨gb, cap, cur, rfl, hbase, hgb, r1, r2, r3, r4⟩
  · have hss : X = [] := List.eq_nil_of_length_eq_zero hz
    subst hss
    refine (Tryz.slices_Compact_string_empty none 0 W).mono ?_
    rintro e w1 ⟨rfl, rfl⟩
    exact ⟨_, rfl, by simpa [risB, srtB, bl, tx, Lib.compact, Lib.compactUpTo] using World.ownsRow_nil w1 w.heap.size 9 1, hb⟩
  · have hlen : (srtB (bl X)).length = X.length := by rw [srtB_len, bl_len]
    have hH : Holds encStr W gb 0 (srtB (bl X)).toArray := holds_of_block hgb (by rw [hlen]; simpa using r4)
    have HS := Tryz.slices_Compact_string gb 0 cap (srtB (bl X)) W hH (by rw [hlen]; omega) (by rw [hlen]; exact r1)
    rw [hlen] at HS
    have hcl := compact_le (srtB (bl X))
    refine HS.mono ?_
    rintro e w1 ⟨rfl, nn, hw1⟩
    have HBB := hb.grown (grownBy_compact (w := W) (g := gb) (n := nn) (Lib.compact (srtB (bl X)) ++ List.replicate (X.length - (Lib.compact (srtB (bl X))).length) []).toArray) hb.size (fun j hj => by cases hj; exact hbase)
    have HOO := owns_compact (n := nn) (base := w.heap.size) (C := risB (bl X)) (R := List.replicate (X.length - (Lib.compact (srtB (bl X))).length) []) hbase hgb (by rw [List.length_replicate]; unfold risB; omega) r2 r3
    rw [← hw1] at HBB
    have HOO2 : w1.ownsRow w.heap.size 9 1 (.slice (some ⟨gb, 0, none⟩) (risB (bl X)).length cap) (risB (bl X)).length ((risB (bl X)).map encStr) := by rw [hw1]; exact HOO
    exact ⟨_, rfl, own_txB HOO2, HBB⟩
theorem bothT_run (X Y : List ByteArray) (dv sv : Value) (W : World) (B C : Nat) (hB : B ≤ W.heap.size) (hX : X.length ≤ 1000000) (hY : Y.length ≤ 1000000) (ho : W.ownsRow B 9 1 dv X.length (X.map Value.string)) (h : W.ownsRow C 9 1 sv Y.length (Y.map Value.string)) :
    ∃ v' W', (Builtin.append_ #[29, 29] 29 #[dv, sv]).run Tryz.prog W = .ok v' W' ∧ W'.ownsRow B 9 1 v' (X ++ Y).length ((X ++ Y).map Value.string) ∧ W.grownBy W' dv.ownBlock := by
  obtain ⟨i0, hi, hz0, hz1, hz2⟩ := info_parts infoStr
  rcases h.2 with ⟨rfl, hz⟩ | ⟨g, cap, cur, rfl, hbase, hgb, r1, r2, r3, r4⟩
  · have hss : Y = [] := List.eq_nil_of_length_eq_zero hz
    subst hss
    refine ⟨dv, W, ?_, by simpa using ho, ⟨rfl, rfl, rfl, Nat.le_refl _, fun _ _ _ => rfl⟩⟩
    exact run_append_owned_none (P := Tryz.prog) (w := W) B 29 29 9 i0 1 Tryz.underlying29 hi dv X.length (X.map Value.string) ho
  · obtain ⟨v', W', h3, h4, h5, _⟩ := run_append_own (P := Tryz.prog) W B 29 29 9 i0 _ 1 16 Tryz.underlying29 hi hz0 hz1 hz2 rfl (by decide) dv X.length (X.map Value.string) ho ⟨g, 0, none⟩ Y.length cap (Y.map Value.string) (by simp) (fun j u hj => by
      rw [Addr.add_lit, Nat.zero_add]
      rw [← r4, List.getElem?_take] at hj
      split at hj
      · simp only [World.cell?, hgb]
        simpa using hj
      · cases hj) (fun u hu => by obtain ⟨s, _, rfl⟩ := List.mem_map.1 hu; rfl) (by unfold maxLen; omega) (by omega) hB
    exact ⟨v', W', h3, by rw [List.length_append, List.map_append]; exact h4, h5⟩
theorem slF_all {Q : List Raw} {R : List Bm} (h : (slF Q R).1 = 0) : ∀ i (hi : i < R.length), ∃ k : Nat, idxOf (isM R[i]) Q = (k : Int) := fun i hi => by
  have h1 := codeE_all (show codeE (nonE Q R) R.length = 0 from h) i hi
  rw [nonE_at hi] at h1
  unfold nonW at h1
  rcases idx_nat (isM R[i]) Q with h2 | h2
  · rw [h2, if_pos (by decide)] at h1; cases h1
  · exact h2
theorem slF_zero {Q : List Raw} {R : List Bm} (h : (slF Q R).1 = 0) : slF Q R = (0, none) :=
  nonE_good fun j hj => by
    obtain ⟨k, hk⟩ := slF_all h j hj
    rw [hk]; omega
def flP (Q : List Raw) (L : List Ent) (R : List Bm) : List ByteArray := R.flatMap (pkOf Q L)
theorem fl_next {Q : List Raw} {L : List Ent} {R : List Bm} {k : Nat} (hk : k < R.length) : flP Q L (R.take (k + 1)) = flP Q L (R.take k) ++ pkOf Q L R[k] := by
  unfold flP
  rw [List.take_succ_eq_append_getElem hk, List.flatMap_append]; simp
set_option maxRecDepth 100000 in
set_option maxHeartbeats 4000000 in
theorem pall_any (Q : List Raw) (L : List Ent) (R : List Bm) (v rv : Value) (A : Nat → Addr) (m : Int) (w : World) (hL : L.length ≤ 200) (sh : ∀ e, e ∈ L → ShE e) (hq : shQ Q) (hR : R.length ≤ 1000) (S : Te w A m) (I : Ixs w v Q L) (hr : MsAt w rv R) :
    Calls Tryz.prog 43 #[v, rv] w fun e w' => ∃ u x, e = .returned (.tuple #[u, x]) ∧ TxAt w' u (alX Q L R) ∧ ErrAt w' A x (alF Q L R).1 (alF Q L R).2 ∧ Below w.heap.size w w' := by
  have HIC := hid (icheck_any Q L v A m w (by omega) sh S I)
  have HCM := hid (fun W (h : Below w.heap.size w W) => cmods_any Q R v rv A m W (by rw [I.ln]; omega) (by omega) (S.below h) (I.es.below h) (hr.below h))
  have hpn : ∀ x : Bm, ∀ k : Nat, idxOf (isM x) Q = (k : Int) → (pkOf Q L x).length ≤ 1000 := fun x k h2 => by
    obtain ⟨_, hl, _, h3, _⟩ := pk_is I h2
    rw [h3, List.length_map]
    exact (sh _ (List.getElem_mem hl)).pn
  have HPK := hid (fun x (k : Nat) (hk : idxOf (isM x) Q = (k : Int)) W (h : Below w.heap.size w W) => And.intro (hpn x k hk) (pks_any Q L x k v W (by omega) sh (by
    obtain ⟨hk2, _, h3, _⟩ := pk_is I hk
    rw [← h3]
    have := (hq _ (List.getElem_mem hk2)).1
    omega) (I.below h) hk))
  have HMR := hid (fun W (h : Below w.heap.size w W) => hr.below h)
  have HNX := hid (fun k (hk : k < R.length) => fl_next (Q := Q) (L := L) hk)
  obtain ⟨a, c, hv1, -⟩ := id I.es
  subst hv1
  obtain ⟨ra, rc, hrv, -⟩ := id hr
  subst hrv
  by_cases hc : (chk Q L).1 = 0
  · have hAF : alF Q L R = slF Q R := by unfold alF; rw [if_neg (by simp [hc])]
    by_cases hs : (slF Q R).1 = 0
    · have hAX : alX Q L R = (flP Q L R).foldl insT [] := by
        unfold alX; rw [hAF, if_pos hs]; rfl
      have HFO := hid (slF_all hs)
      rw [hAX, hAF]
      have HE := hid (show slF Q R = (0, none) from slF_zero hs)
      rw [HE.out]
      obtain ⟨ans, hans⟩ : ∃ ans, ans = (flP Q L R).foldl insT [] := ⟨_, rfl⟩
      rw [← hans]
      have HANS := hid hans
      clear hans
      have HS0 := hid (show codeE (nonE Q R) R.length = 0 from hs)
      clear hAX hAF hpn S I hr hq sh
      go_enter Tryz.func43, Tryz.ntmps43
      go_wp2_with fail
      refine HIC.out.mono ?_
      rintro e w1 ⟨x, rfl, he, hb⟩
      rw [hc] at he
      have HB1 := hid hb
      rcases he.kind with ⟨-, rfl⟩ | ⟨h0, -⟩
      · clear he hb HIC hc hs
        go_wp2_with fail
        refine (HCM.out w1 HB1.out).mono ?_
        rintro e w2 ⟨x, rfl, he, hb⟩
        rw [HS0.out] at he
        have HB2 := hid (HB1.out.trans (hb.mono HB1.out.size))
        rcases he.kind with ⟨-, rfl⟩ | ⟨h0, -⟩
        · clear he hb HCM HB1
          go_wp2_with fail
          go_loopw [8, 24] (fun ov iv wr => ∃ i : Nat, i ≤ R.length ∧ iv = .int .i64 i ∧ Hid (wr.ownsRow w.heap.size 9 1 ov (flP Q L (R.take i)).length ((flP Q L (R.take i)).map Value.string)) ∧ Hid ((flP Q L (R.take i)).length ≤ i * 1000) ∧ Hid (Below w.heap.size w wr)) (fun _ iv _ => R.length - (intOf iv).toNat)
          case atStart => exact ⟨0, Nat.zero_le _, rfl, hid (World.ownsRow_nil _ _ _ _), hid (Nat.le_refl _), HB2⟩
          case round =>
            obtain ⟨i, hi, rfl, HOW, HSL, HBr⟩ := hrel
            by_cases hlt : i < R.length
            · have hiI := ix_lt hlt
              have hii := ix_pos i
              have HLI := hid hlt
              obtain ⟨xb, xo, hxa, y0, y1⟩ := (HMR.out _ HBr.out).cells hlt
              subst hxa
              have HN := hid (HNX.out i hlt)
              obtain ⟨kx, hkx⟩ := HFO.out i hlt
              have HP := hid (HPK.out R[i] kx hkx)
              clear hkx
              generalize R[i] = x at *
              obtain ⟨x1, x2'⟩ := x
              obtain ⟨SX, hSX⟩ : ∃ SX, flP Q L (R.take i) = SX := ⟨_, rfl⟩
              rw [hSX] at HOW HN HSL
              generalize pkOf Q L (x1, x2') = Y at *
              have HBa := hid ((Below.refl wr.heap.size wr).alloc (Nat.le_refl _) (.cells #[.string x1, .string x2'] 35))
              have HBb := hid (HBr.out.trans (HBa.out.mono HBr.out.size))
              have HOa := hid (owns_below HOW.out HBa.out)
              clear hSX hlt HOW
              go_wp2_with fail
              refine (HP.out _ HBb.out).2.mono ?_
              rintro e w4 ⟨u, rfl, hu, hb⟩
              have HYL := hid (HP.out _ HBb.out).1
              have HB4 := hid (HBb.out.trans (hb.mono HBb.out.size))
              have HO4 := hid (owns_below HOa.out hb)
              obtain ⟨v2, W2, hrun, ho2, hg2⟩ := bothT_run SX Y _ u w4 w.heap.size _ HB4.out.size (by have := HSL.out; omega) (by have := HYL.out; omega) HO4.out hu
              have HRUN := hid hrun
              have HO5 := hid ho2
              have HB5 := hid (HB4.out.grown hg2 HB4.out.size (fun k hk => (HO4.out.lt k hk).1))
              have HSL5 := hid (show (SX ++ Y).length ≤ (i + 1) * 1000 by have := HSL.out; have := HYL.out; rw [List.length_append]; omega)
              obtain ⟨ua, uc, hus⟩ := own_slN hu
              subst hus
              generalize SX ++ Y = ZZ at *
              clear hu hb hrun ho2 hg2 HP HOa
              go_wp2_with (at_builtin; refine Lib.wpList_append_run _ rfl _ _ _ _ rfl _ _ rfl rfl _ _ HRUN.out ?_)
              go_roundw
              case rel => exact ⟨i + 1, HLI.out, by first | exact nr_idx i | exact nx_idx HLI.out (by omega : R.length ≤ 1000000), by rw [HN.out]; exact HO5, by rw [HN.out]; exact HSL5, HB5⟩
              case measure => first | exact nr_meas HLI.out | exact nx_meas HLI.out (by omega : R.length ≤ 1000000)
            · have hiI := ix_nlt hlt
              have HTR := hid (show R.take i = R from List.take_of_length_le (by omega))
              rw [HTR.out] at HOW HSL
              obtain ⟨FX, hFX⟩ : ∃ FX, flP Q L R = FX := ⟨_, rfl⟩
              rw [hFX] at HOW HSL HANS
              have hfl : FX.length ≤ 1000000 := by have := HSL.out; omega
              obtain ⟨va, vc, hvs⟩ := own_slN HOW.out
              subst hvs
              have HSO := hid (sortT_own FX _ w wr hfl HOW.out HBr.out)
              have HCO := hid (fun W h1 h2 => compT_own FX (.slice va FX.length vc) w W hfl h1 h2)
              rw [← HANS.out] at HCO
              clear hlt HOW HSL hFX hfl
              generalize FX.length = fl at *
              go_wp2_with fail
              refine HSO.out.mono ?_
              rintro e w5 ⟨rfl, ho, hb⟩
              have HC5 := hid (HCO.out w5 ho hb)
              clear ho hb HCO HSO
              go_wp2_with fail
              refine HC5.out.mono ?_
              rintro e w6 ⟨u, rfl, ho, hb⟩
              have HT6 := hid (own_tx ho)
              have HB6 := hid hb
              obtain ⟨ua, uc, hus⟩ := own_slN ho
              subst hus
              clear ho hb HC5
              go_wp2_with fail
              go_ret2
              exact ⟨_, _, rfl, HT6.out, rfl, HB6.out⟩
        · exact absurd rfl h0
      · exact absurd rfl h0
    · have hAX : alX Q L R = [] := by unfold alX; rw [hAF, if_neg hs]
      rw [hAX, hAF]
      have HS0 := hid hs
      clear hAX hAF hpn S I hr hq sh
      go_enter Tryz.func43, Tryz.ntmps43
      go_wp2_with fail
      refine HIC.out.mono ?_
      rintro e w1 ⟨x, rfl, he, hb⟩
      rw [hc] at he
      have HB1 := hid hb
      rcases he.kind with ⟨-, rfl⟩ | ⟨h0, -⟩
      · clear he hb HIC hc hs
        go_wp2_with fail
        refine (HCM.out w1 HB1.out).mono ?_
        rintro e w2 ⟨x, rfl, he, hb⟩
        have HB2 := hid (HB1.out.trans (hb.mono HB1.out.size))
        have HE2 := hid (show ErrAt w2 A x (slF Q R).1 (slF Q R).2 from he)
        rcases he.kind with ⟨h0, -⟩ | ⟨-, T', ea, rfl⟩
        · exact absurd h0 HS0.out
        · clear he hb HCM
          go_wp2_with fail
          go_ret2
          exact ⟨_, _, rfl, ⟨none, 0, rfl, Nat.le_refl _, fun h => absurd rfl h⟩, HE2.out, HB2.out⟩
      · exact absurd rfl h0
  · have hAF : alF Q L R = chk Q L := by unfold alF; rw [if_pos hc]
    have hAX : alX Q L R = [] := by unfold alX; rw [hAF, if_neg hc]
    rw [hAX, hAF]
    have HC0 := hid hc
    clear hAX hAF hpn S I hr hq sh hc
    go_enter Tryz.func43, Tryz.ntmps43
    go_wp2_with fail
    refine HIC.out.mono ?_
    rintro e w1 ⟨x, rfl, he, hb⟩
    have HB1 := hid hb
    have HE1 := hid he
    rcases he.kind with ⟨h0, -⟩ | ⟨-, T', ea, rfl⟩
    · exact absurd h0 HC0.out
    · clear he hb HIC
      go_wp2_with fail
      go_ret2
      exact ⟨_, _, rfl, ⟨none, 0, rfl, Nat.le_refl _, fun h => absurd rfl h⟩, HE1.out, HB1.out⟩
end Ve
end Go.Proofs.YtnkgjddkdikikaaGreatDoor
namespace Go.Proofs.YtnkgjddkdikikaaGreatDoor
open Go.RowKit Go.Maps
namespace Ve
structure Ps (w W : World) (u : Value) (X : List ByteArray) : Prop where
  own : W.ownsRow w.heap.size 9 1 u X.length (X.map Value.string)
  nl : X = [] → u = .slice none 0 0
  bl : Below w.heap.size w W
theorem Ps.below {w W W' : World} {u : Value} {X : List ByteArray} (h : Ps w W u X) (hb : Below W.heap.size W W') : Ps w W' u X :=
  ⟨owns_below h.own hb, h.nl, h.bl.trans (hb.mono h.bl.size)⟩
end Ve
end Go.Proofs.YtnkgjddkdikikaaGreatDoor
namespace Go.Proofs.YtnkgjddkdikikaaGreatDoor
open Go.RowKit Go.Maps
namespace Ve
def bAX : ByteArray := ⟨#[97, 47, 120]⟩
theorem s3_slF (g : Nat) : slF (s3Q g) [qa0] = (0, none) := Prod.ext (show codeE (nonE (s3Q g) [qa0]) 1 = 0 by kernel_rfl) (show fstE (nonE (s3Q g) [qa0]) 1 = none by kernel_rfl)
theorem s3_bst (g : Nat) : bstN (s3Q g) s3L bAX [qa0] 1 = qa0 := by kernel_rfl
theorem s3_path : pathErr bAX.data.toList = 0 := by kernel_rfl
theorem s3_ofF (g : Nat) : ofF (s3Q g) s3L [qa0] bAX = (0, none) := by
  unfold ofF
  rw [s3_chk, if_neg (by simp), s3_path, if_neg (by simp), s3_slF, if_neg (by simp)]
  show (if (bstN (s3Q g) s3L bAX [qa0] 1).1.size = 0 then (5, none) else (0, none)) = ((0, none) : Nat × Option Nat)
  rw [s3_bst, if_neg (by decide)]
theorem s3_ofM (g : Nat) : ofM (s3Q g) s3L [qa0] bAX = qa0 := by
  unfold ofM
  rw [s3_ofF, if_pos rfl]
  exact s3_bst g
theorem s3_shQ (g : Nat) : shQ (s3Q g) := fun r hr => by
  have : r.1 = qa0 ∨ r.1 = qa1 ∨ r.1 = qb0 ∨ r.1 = qb1 := by
    have h := List.mem_map_of_mem (f := fun r : Raw => r.1) hr
    simpa [s3Q] using h
  rcases this with h | h | h | h <;> rw [h] <;> exact ⟨by decide, by decide⟩
end Ve
end Go.Proofs.YtnkgjddkdikikaaGreatDoor
namespace Go.Proofs.YtnkgjddkdikikaaGreatDoor
open Go.RowKit
namespace Ve
def cfP (a b : Bm) : Int := Lib.compareInt (b.1.size : Int) (a.1.size : Int)
theorem cfP_lt : ltOf cfP = gtF plen := by
  funext x y
  unfold ltOf cfP gtF Lib.compareInt plen
  by_cases h : (y.1.size : Int) < (x.1.size : Int)
  · rw [if_pos h, decide_eq_true (by decide), decide_eq_true (by omega)]
  · rw [if_neg h, decide_eq_false (by omega : ¬ y.1.size < x.1.size)]
    split
    · rfl
    · rfl
set_option maxHeartbeats 1000000 in
theorem hk_any (a b : Bm) (w : World) :
    Calls Tryz.prog 172 #[.agg #[.string a.1, .string a.2], .agg #[.string b.1, .string b.2]] w fun e w' => e = .returned (.int .i64 (cfP a b)) ∧ Below w.heap.size w w' := by
  obtain ⟨p, v⟩ := a
  obtain ⟨q, u⟩ := b
  have HB0 := hid (((Below.refl w.heap.size w).alloc (Nat.le_refl _) (.cells #[.string p, .string v] 35)).alloc (by simp) (.cells #[.string q, .string u] 35))
  have HC := hid (fun W => Tryz.cmp_Compare_int (q.size : Int) (p.size : Int) W)
  show Calls Tryz.prog 172 #[.agg #[.string p, .string v], .agg #[.string q, .string u]] w fun e w' => e = .returned (.int .i64 (Lib.compareInt (q.size : Int) (p.size : Int))) ∧ Below w.heap.size w w'
  generalize Lib.compareInt (q.size : Int) (p.size : Int) = z at *
  go_enter Tryz.func172, Tryz.ntmps172
  go_wp2_with fail
  refine (HC.out _).mono ?_
  rintro e w1 ⟨rfl, rfl⟩
  go_wp2_with fail
  go_ret
  exact ⟨rfl, HB0.out⟩
theorem hk_bw (a b : Bm) (w : World) :
    Calls Tryz.prog 172 #[.agg #[.string a.1, .string a.2], .agg #[.string b.1, .string b.2]] w fun e w' => e = .returned (.int .i64 (cfP a b)) ∧ ∃ q os', w' = Go.Sort.grow (w.drewN q) os' :=
  (Mo.calls_ge (hk_any a b w) (fun _ _ h => ⟨_, h.1⟩)).mono fun _ _ ⟨⟨h1, h2⟩, h3⟩ => ⟨h1, grow_of_be h2 h3⟩
theorem cmpP (g n : Nat) (w : World) [Inhabited Bm] : CmpLays Tryz.prog 172 #[] mcells 2 cfP g 0 n w := by
  intro m os dk hs x y
  have e : (#[.agg (mcells x).toArray, .agg (mcells y).toArray] ++ #[] : Array Value) = #[.agg #[.string x.1, .string x.2], .agg #[.string y.1, .string y.2]] := by simp [mcells]
  rw [e]
  exact hk_bw x y _
theorem holds_bm {w0 w : World} {g : Nat} {D : List Bm} (h : Mw w0 w g D) [Inhabited Bm] : Go.Sort.HoldsK mcells 2 w g 0 D.toArray := by
  intro t ht
  rw [Go.Sort.size_flatK] at ht
  rw [Go.Sort.get_flatK _ _ _ _ ht]
  have hi : t / 2 < D.length := by have : t < D.length * 2 := by simpa using ht
                                   omega
  have e : D.toArray[t / 2]! = D[t / 2] := by
    rw [getElem!_pos D.toArray (t / 2) (by simpa using hi)]
    simp
  refine ⟨?_, by rw [Nat.zero_add]; exact h.fz t⟩
  rw [e, Nat.zero_add]
  have hm : t % 2 < 2 := Nat.mod_lt _ (by omega)
  have hdm := Nat.div_add_mod t 2
  match hc : t % 2, hm with
  | 0, _ => have := h.c0 (t / 2) hi; rw [show t / 2 * 2 = t by omega] at this; exact this
  | 1, _ => have := h.c1 (t / 2) hi; rw [show t / 2 * 2 + 1 = t by omega] at this; exact this
theorem ins_mw (w0 w : World) (g cap : Nat) (D : List Bm) (hn : D.length ≤ 1000000) (h : Mw w0 w g D) :
    Calls Tryz.prog 275 #[.slice (some ⟨g, 0, none⟩) D.length cap, .int .i64 0, .int .i64 D.length, .func (.func 172) #[] #[]] w fun e w' => e = .returned (.tuple #[]) ∧ ∃ D', Falls plen D D' ∧ D'.length = D.length ∧ Mw w0 w' g D' := by
  letI : Inhabited Bm := ⟨(⟨#[]⟩, ⟨#[]⟩)⟩
  have hH := holds_bm h
  have eg : ∀ args w, (callFunc 172 args).run Tryz.prog w = .ok (.enter 172 args) w := enters_of Tryz.func172 (by kernel_rfl) rfl
  have hcon := AnyQ.insertionSortCmpFunc ({ Tryz.sortMods with } : SlLaysF0.n20 Tryz.prog Tryz.sortMods_ren) 2 Tryz.isAgg35 Tryz.sizeOf35 mcells (fun _ => rfl) (fun x v hv => by
    simp only [mcells, List.mem_cons, List.not_mem_nil, or_false] at hv
    rcases hv with rfl | rfl <;> rfl) cfP 172 #[] g 0 cap 0 D.toArray.size D.toArray w eg (cmpP g _ w) hH h.hi (Nat.zero_le _) (Nat.le_refl _) (by simp; omega)
  have hsz : D.toArray.size = D.length := by simp
  rw [cfP_lt] at hcon
  have hf := ins_falls plen D.toArray
  rw [hsz] at hcon hf
  have hds : (Go.Sort.insertionSort (gtF plen) D.toArray 0 D.length).size = D.length := by
    have := (Go.Sort.insertionSort_holds (lt := gtF plen) (gtF_swo plen) D.toArray 0 D.length (Nat.zero_le _) (by simp)).1.1
    rw [this, hsz]
  refine Calls.mono hcon ?_
  rintro e w' ⟨he, n, os, rfl⟩
  generalize Go.Sort.insertionSort (gtF plen) D.toArray 0 D.length = d' at *
  have hHd := holdsK_sortWorldK_c mcells 2 w g 0 D.toArray d' n os hH h.hi (by rw [hds, hsz])
  have hg : ∀ j (hj : j < d'.toList.length), d'[j]! = d'.toList[j] := fun j hj => by
    rw [getElem!_pos d' j (by simpa using hj)]; simp
  have cell : ∀ j (hj : j < d'.toList.length) c (hc : c < 2), (sortWorldK mcells 2 w g 0 n d' os).cell? ⟨g, j * 2 + c, none⟩ = some ((mcells d'.toList[j])[c]!) := by
    intro j hj c hc
    have h1 := (hHd.cell (i := j) (c := c) (by simpa using hj) hc).1
    rw [Nat.zero_add, hg j hj] at h1
    exact h1
  refine ⟨he, d'.toList, by simpa using hf, by simpa using hds, ?_⟩
  refine ⟨h.bl.trans ((sorted_belowM mcells n d' os w0.heap.size h.lo h.bl.size)), h.lo, Nat.lt_of_lt_of_le h.hi (size_sortWorldK_c mcells 2 w g 0 n d' os), fun o => ?_, fun j hj => ?_, fun j hj => ?_⟩
  · unfold sortWorldK
    rw [Go.Sort.frozen?_grow _ _ _ (by rw [Go.Sort.size_putRowK]; exact h.hi)]
    unfold Go.Sort.putRowK
    rw [Go.Sort.frozen?_putRow]
    exact h.fz o
  · exact cell j hj 0 (by omega)
  · exact cell j hj 1 (by omega)
theorem insP_nil (a : Option Addr) (c : Nat) (W : World) : Calls Tryz.prog 275 #[.slice a 0 c, .int .i64 0, .int .i64 0, .func (.func 172) #[] #[]] W fun e w' => e = .returned (.tuple #[]) ∧ w' = W := by
  go_enter Tryz.func275, Tryz.ntmps275
  go_wp2_with fail
  go_loop [8] (fun i => i = .int .i64 1) (fun _ => 0)
  case atStart => rfl
  case round =>
    obtain rfl := hrel
    go_wp2_with fail
    go_end0
    exact ⟨rfl, rfl⟩
set_option maxRecDepth 100000 in
set_option maxHeartbeats 2000000 in
theorem stab_in (a : Option Addr) (n c : Nat) (w : World) (hn : n ≤ 19) (Post : World → Prop) (h : Calls Tryz.prog 275 #[.slice a n c, .int .i64 0, .int .i64 n, .func (.func 172) #[] #[]] w fun e w' => e = .returned (.tuple #[]) ∧ Post w') :
    Calls Tryz.prog 236 #[.slice a n c, .int .i64 n, .func (.func 172) #[] #[]] w fun e w' => e = .returned (.tuple #[]) ∧ Post w' := by
  have HI := hid h
  have h1 : ¬ (20 : Int) ≤ (n : Int) := by omega
  have h2 : ¬ (20 : Int) < (n : Int) := by omega
  clear h
  go_enter Tryz.func236, Tryz.ntmps236
  go_wp2_with fail
  go_loopw [7, 8] (fun av bv wr => av = .int .i64 0 ∧ bv = .int .i64 20 ∧ wr = w) (fun _ _ _ => 0)
  case atStart => exact ⟨rfl, rfl, rfl⟩
  case round =>
    obtain ⟨rfl, rfl, rfl⟩ := hrel
    go_wp2_with fail
    refine HI.out.mono ?_
    rintro e w1 ⟨rfl, hp⟩
    have HP := hid hp
    clear hp
    go_wp2_with fail
    go_loopw [6] (fun sv wr' => sv = .int .i64 20 ∧ wr' = w1) (fun _ _ => 0)
    case atStart => exact ⟨rfl, rfl⟩
    case round =>
      obtain ⟨rfl, rfl⟩ := hrel
      go_wp2_with fail
      first | go_end0 | go_ret
      exact ⟨rfl, HP.out⟩
set_option maxHeartbeats 1000000 in
theorem ssf_in (a : Option Addr) (n c : Nat) (w : World) (hn : n ≤ 19) (Post : World → Prop) (h : Calls Tryz.prog 275 #[.slice a n c, .int .i64 0, .int .i64 n, .func (.func 172) #[] #[]] w fun e w' => e = .returned (.tuple #[]) ∧ Post w') :
    Calls Tryz.prog 171 #[.slice a n c, .func (.func 172) #[] #[]] w fun e w' => e = .returned (.tuple #[]) ∧ Post w' := by
  have HI := hid (stab_in a n c w hn Post h)
  clear h
  go_enter Tryz.func171, Tryz.ntmps171
  go_wp2_with fail
  refine HI.out.mono ?_
  rintro e w1 ⟨rfl, hp⟩
  have HP := hid hp
  clear hp
  go_wp2_with fail
  go_end0
  exact ⟨rfl, HP.out⟩
end Ve
end Go.Proofs.YtnkgjddkdikikaaGreatDoor
namespace Go.Proofs.YtnkgjddkdikikaaGreatDoor
open Go.RowKit Go.Maps
namespace Ve
structure Pm (w W : World) (fb C : Nat) (u : Value) (A : List Bm) : Prop where
  pb : Pb w W fb 0 (-1)
  own : W.ownsRow C 35 2 u A.length (flatM A)
theorem Pm.below {w W W' : World} {fb C : Nat} {u : Value} {A : List Bm} (h : Pm w W fb C u A) (hb : Below W.heap.size W W') : Pm w W' fb C u A :=
  ⟨h.pb.below hb, owns_below h.own hb⟩
end Ve
end Go.Proofs.YtnkgjddkdikikaaGreatDoor
namespace Go.Proofs.YtnkgjddkdikikaaGreatDoor
open Go.RowKit Go.Maps
namespace Ve
set_option maxRecDepth 100000 in
set_option maxHeartbeats 2000000 in
theorem packed_any {T : World → Prop} (OC : OfC T) (KT : StayK T) (A : Nat → Addr) (m : Int) (w : World) (S : Te w A m) (hT : T w) :
    Calls Tryz.prog 41 #[] w fun e w' => e = .returned (.bool true) ∧ Below w.heap.size w w' := by
  have HSM := hid (fun W => small3_any W)
  have HS := hid (fun W (h : Below w.heap.size w W) => S.below h)
  have HT := hid (fun W (h : Below w.heap.size w W) => KT w W hT h)
  have HOC := hid OC
  clear S OC KT hT
  go_enter Tryz.func41, Tryz.ntmps41
  go_wp2_with fail
  refine (HSM.out w).mono ?_
  rintro e w1 ⟨g, q, rfl, hix, hb⟩
  have HB1 := hid hb
  have HIX := hid hix
  clear hb hix
  have HB2 := hid (HB1.out.alloc HB1.out.size (.cells #[.string ⟨#[97]⟩, .string ⟨#[118, 49, 46, 48, 46, 48]⟩] 35))
  have HN2 := hid ((Below.refl w1.heap.size w1).alloc (Nat.le_refl _) (.cells #[.string ⟨#[97]⟩, .string ⟨#[118, 49, 46, 48, 46, 48]⟩] 35))
  have HMS := hid (show MsAt (w1.alloc (.cells #[.string ⟨#[97]⟩, .string ⟨#[118, 49, 46, 48, 46, 48]⟩] 35)) (.slice (some ⟨w1.heap.size, 0, none⟩) 1 1) [qa0] from
    ⟨some ⟨w1.heap.size, 0, none⟩, 1, rfl, Nat.le_refl _, fun _ => ⟨w1.heap.size, 0, rfl, fun j hj => by
      have : j = 0 := by simp at hj; omega
      subst this
      exact ⟨by simp; rfl, by simp; rfl⟩⟩⟩)
  have HO := hid (HOC.out (s3Q g) s3L [qa0] bAX _ _ A m _ (by decide) s3_sh (s3_shQ g) (by decide) (Nat.le_trans (hv_all _ _ _ _) (by decide)) (by decide) (HS.out _ HB2.out) (HT.out _ HB2.out) (HIX.out.below HN2.out) HMS.out)
  rw [s3_ofM, s3_ofF] at HO
  go_wp2_with fail
  refine HO.out.mono ?_
  rintro e w2 ⟨x, rfl, hx, hb⟩
  have HB3 := hid (HB2.out.trans (hb.mono HB2.out.size))
  rcases hx.kind with ⟨-, rfl⟩ | ⟨h0, -⟩
  · clear hb hx
    have hq : (qa0.2.toList == [118, 49, 46, 48, 46, 48]) = true := by rw [ByteArray.toList_eq]; rfl
    go_wp2_with fail
    go_ret
    exact ⟨rfl, HB3.out.alloc HB3.out.size _⟩
  · exact absurd rfl h0
theorem str_rf (a : ByteArray) : (a.toList == a.toList) = true := beq_self_eq_true _
theorem ixs_shQ {w : World} {v : Value} {Q : List Raw} {L : List Ent} (I : Ixs w v Q L) (h : okI L = true) : shQ Q := ixs_sz I h
theorem pk_len {Q : List Raw} {L : List Ent} (sh : ∀ e, e ∈ L → ShE e) (m : Bm) : (pkOf Q L m).length ≤ 1000 := by
  unfold pkOf
  rw [packL_len]
  unfold entOf
  cases h : L[(idxOf (isM m) Q).toNat]? with
  | none => exact Nat.zero_le _
  | some e => exact (sh e (List.mem_of_getElem? h)).pn
theorem pkf_len {Q : List Raw} {L : List Ent} (sh : ∀ e, e ∈ L → ShE e) : ∀ R : List Bm, (R.flatMap (pkOf Q L)).length ≤ R.length * 1000
  | [] => Nat.zero_le _
  | m :: R => by
    have h1 := pk_len (Q := Q) sh m
    have h2 := pkf_len (Q := Q) sh R
    rw [List.flatMap_cons, List.length_append, List.length_cons]; omega
theorem al_len {Q : List Raw} {L : List Ent} {R : List Bm} (sh : ∀ e, e ∈ L → ShE e) (hR : R.length ≤ 1000) : (alX Q L R).length ≤ 1000000 := by
  unfold alX
  split
  · have h1 := pkf_len (Q := Q) sh R
    have h2 := fold_len (Z := R.flatMap (pkOf Q L)) (X := [])
    unfold alN
    simp only [List.length_nil] at h2
    omega
  · exact Nat.zero_le _
end Ve
end Go.Proofs.YtnkgjddkdikikaaGreatDoor
namespace Go.Proofs.YtnkgjddkdikikaaGreatDoor
open Go.RowKit Go.Maps
namespace Ve
theorem al_one {Q : List Raw} {L : List Ent} {x : Bm} (sh : ∀ e, e ∈ L → ShE e) : (alN Q L [x]).length ≤ 1000000 := by
  have h1 := pkf_len (Q := Q) sh [x]
  have h2 := fold_len (Z := [x].flatMap (pkOf Q L)) (X := [])
  unfold alN
  simp only [List.length_nil, List.length_cons] at h1 h2
  omega
theorem hasB_next {E : List Bm} {k : Nat} (h : k < E.length) (m : Bm) : hasB (E.take (k + 1)) m = (hasB (E.take k) m || decide (m.1 = E[k].1 ∧ m.2 = E[k].2)) := by
  unfold hasB
  rw [List.take_succ_eq_append_getElem h, List.any_append]; simp
end Ve
end Go.Proofs.YtnkgjddkdikikaaGreatDoor
