
import Derived.Test.YtemhofbhmnnijaaGreatDoorPj19
import Derived.Test.YtemhofbhmnnijaaGreatDoorPj48
import Derived.Test.YtemhofbhmnnijaaGreatDoorPj24
import Derived.Test.YtemhofbhmnnijaaGreatDoorPj33
import Derived.Test.YtemhofbhmnnijaaGreatDoorPj16
import Derived.Deep.AppendLies
namespace Go.Proofs.YtemhofbhmnnijaaGreatDoor
open Go.RowKit Go.Maps
namespace Ve
def PChkC (T : World → Prop) (A : Nat → Addr) : Prop := ∀ (p : ByteArray) (w : World), p.size ≤ 100 → T w → Calls Tryz.prog 7 #[.string p] w fun e w' => e = .returned (errA A (patE p)) ∧ Below w.heap.size w w'
def SomeC (T : World → Prop) : Prop := ∀ (p : ByteArray) (X : List ByteArray) (v : Value) (w : World), p.size ≤ 100 → X.length ≤ 20 → (∀ x, x ∈ X → x.size ≤ 100) → T w → TxAt w v X →
  Calls Tryz.prog 13 #[.string p, v] w fun e w' => ∃ u, e = .returned u ∧ w'.ownsRow w.heap.size 9 1 u (X.filter (ismB p)).length ((X.filter (ismB p)).map Value.string) ∧ Below w.heap.size w w'
theorem row_kept {W W3 : World} {B n : Nat} {e : TypeId} {u : Value} {xs : List Value} {r : Option Nat} (h : W.ownsRow B e 1 u n xs) (hg : W.grownBy W3 r) (hne : ∀ b, u.ownBlock = some b → r ≠ some b) : W3.ownsRow B e 1 u n xs := by
  refine ⟨h.1, ?_⟩
  rcases h.2 with h0 | ⟨g, cap, cur, e1, e2, e3, e4⟩
  · exact Or.inl h0
  · refine Or.inr ⟨g, cap, cur, e1, e2, ?_, e4⟩
    rw [hg.block g (lt_of_blk e3) (fun e => hne g (by rw [e1]; rfl) e.symm)]; exact e3
structure Pw (w W : World) (v u : Value) (X Y : List ByteArray) : Prop where
  own : W.ownsRow w.heap.size 9 1 v X.length (X.map Value.string)
  wnt : W.ownsRow w.heap.size 9 1 u Y.length (Y.map Value.string)
  ap : ∀ b, v.ownBlock = some b → u.ownBlock ≠ some b
  bl : Below w.heap.size w W
theorem Pw.below {w W W' : World} {v u : Value} {X Y : List ByteArray} (h : Pw w W v u X Y) (hb : Below W.heap.size W W') : Pw w W' v u X Y :=
  ⟨owns_below h.own hb, owns_below h.wnt hb, h.ap, h.bl.trans (hb.mono h.bl.size)⟩
theorem Pw.swap {w W : World} {v u : Value} {X Y : List ByteArray} (h : Pw w W v u X Y) : Pw w W u v Y X := ⟨h.wnt, h.own, fun b h1 h2 => h.ap b h2 h1, h.bl⟩
theorem Pw.app {w W W3 : World} {v u : Value} {X Y : List ByteArray} {x : ByteArray} {g cap : Nat} {o : Obj} (h : Pw w W v u X Y)
    (hown : W3.ownsRow w.heap.size 9 1 (.slice (some ⟨g, 0, none⟩) (X.length + 1) cap) (X.length + 1) (X.map Value.string ++ [.string x])) (hg : (W.alloc o).grownBy W3 v.ownBlock) (hat : v.ownBlock = some g ∨ g = W.heap.size + 1) :
    Pw w W3 (.slice (some ⟨g, 0, none⟩) (X.length + 1) cap) u (X ++ [x]) Y := by
  refine ⟨by rw [List.length_append, List.map_append]; exact hown, row_kept (h.wnt.alloc o) hg (fun b h1 h2 => h.ap b h2 h1), fun b hb hu => ?_, ?_⟩
  · have : g = b := by simpa [Value.ownBlock] using hb
    subst this
    rcases hat with h1 | h1
    · exact h.ap g h1 hu
    · have := (h.wnt.lt g hu).2
      omega
  · exact (h.bl.alloc h.bl.size o).grown hg (by simp; exact Nat.le_succ_of_le h.bl.size) (fun k hk => (h.own.lt k hk).1)
theorem own_zero {W : World} {B : Nat} {u : Value} {Y : List ByteArray} (h : W.ownsRow B 9 1 u Y.length (Y.map Value.string)) : ∃ sx c, u = .slice sx Y.length c ∧ (Y = [] ∨ ∃ g, sx = some ⟨g, 0, none⟩ ∧ ∀ j (hj : j < Y.length), W.cell? ⟨g, j, none⟩ = some (.string Y[j])) := by
  rcases h.2 with ⟨h1, h2⟩ | ⟨g, cap, cur, e1, e2, e3, e4, e5, e6, e7⟩
  · exact ⟨none, 0, by rw [h1, h2], Or.inl (List.length_eq_zero_iff.1 h2)⟩
  · refine ⟨_, cap, e1, Or.inr ⟨g, rfl, fun j hj => ?_⟩⟩
    have h3 : (cur.toList.take (Y.length * 1))[j]? = cur[j]? := by
      rw [List.getElem?_take_of_lt (by omega)]; simp
    rw [Lib.cell_of_heap e3, ← h3, e7, List.getElem?_map, List.getElem?_eq_getElem hj]; rfl
theorem flt_yes {p : ByteArray} {X : List ByteArray} {k : Nat} (hk : k < X.length) (h : ismB p X[k] = true) : (X.take (k + 1)).filter (ismB p) = (X.take k).filter (ismB p) ++ [X[k]] := by
  rw [List.take_succ_eq_append_getElem hk, List.filter_append]; simp [h]
theorem flt_no {p : ByteArray} {X : List ByteArray} {k : Nat} (hk : k < X.length) (h : ismB p X[k] = false) : (X.take (k + 1)).filter (ismB p) = (X.take k).filter (ismB p) := by
  rw [List.take_succ_eq_append_getElem hk, List.filter_append]; simp [h]
theorem patE_le (p : ByteArray) : patE p ≤ 10 := by
  unfold patE
  split
  · exact Nat.zero_le _
  · rcases pathErr_err (xsOf p.data.toList) with h | h | h | h <;> omega
set_option maxRecDepth 100000 in
set_option maxHeartbeats 2000000 in
theorem pt_main {T : World → Prop} {A : Nat → Addr} (MC : MatchC T) (WC : WildC T) (CC : PChkC T A) (SC : SomeC T) (KT : StayT T) (p : ByteArray) (X : List ByteArray) (v : Value) (w : World) (hT : T w) (hS : ∀ W, Below w.heap.size w W → Er.Sen W A) (hx : TxAt w v X) (hp : p.size ≤ 60) (hl : X.length ≤ 15) :
    Calls Tryz.prog 3 #[.string p, v] w fun e w' => e = .returned (.bool true) ∧ Below w.heap.size w w' := by
  obtain ⟨i0, hi, hz0, hz1, hz2⟩ := info_parts infoStr
  have g1 : ¬ (60 : Int) < (p.size : Int) := by omega
  have g2 : ¬ (15 : Int) < (X.length : Int) := by omega
  have HPD := hid (patterned_any MC WC KT w hT)
  have HIW := hid (fun W => riw_any p W (by omega))
  have HCK := hid (fun W (h : Below w.heap.size w W) => CC p W (by omega) (KT w W hT h))
  have HPE := hid (fun W => rpe_any p W (by omega))
  have HCD := hid (fun W (h : Below w.heap.size w W) => coded3_any A (patE p) W (hS W h) (patE_le p))
  have HWC := hid (fun W (h : Below w.heap.size w W) => WC p W (by omega) (KT w W hT h))
  have HIM := hid (fun s W (hs : s.size ≤ 60) => rism_any p s W (by omega) (by omega))
  have HMC := hid (fun s W (hs : s.size ≤ 60) (h : Below w.heap.size w W) => MC p s W (by omega) (by omega) (KT w W hT h))
  have HSC := hid (fun u W (h : Below w.heap.size w W) (hs : ∀ x, x ∈ X → x.size ≤ 60) (hu : TxAt W u X) => SC p X u W (by omega) (by omega) (fun x h => by have := hs x h; omega) (KT w W hT h) hu)
  have HX := hid (fun W (h : Below w.heap.size w W) => hx.below h)
  have HVB := hid (fun (b o : Nat) (n c : Nat) (hv : v = .slice (some ⟨b, o, none⟩) n c) (hX : X ≠ []) => show b < w.heap.size by
    obtain ⟨a, c', e, _, h⟩ := hx
    obtain ⟨b', o', e2, h2⟩ := h hX
    rw [hv] at e
    injection e with e3
    rw [e2] at e3
    injection e3 with e4
    injection e4 with e5
    rw [e5]
    have := lt_of_cell (h2 0 (List.length_pos_iff.2 hX))
    simpa using this)
  obtain ⟨va, vc, hv, -⟩ := id hx
  subst hv
  clear MC WC CC SC KT hT hS hx
  generalize patE p = pe at *
  obtain ⟨ev, hev⟩ : ∃ ev, errA A pe = ev := ⟨_, rfl⟩
  rw [hev] at HCK HCD
  clear hev
  go_enter Tryz.func3, Tryz.ntmps3
  go_wp2_with fail
  refine HPD.out.mono ?_
  rintro e w1 ⟨rfl, hb⟩
  have HB1 := hid hb
  clear hb HPD
  go_wp2_with fail
  refine (HIW.out _).mono ?_
  rintro e w2 ⟨rfl, hb⟩
  have HB2 := hid (HB1.out.trans (hb.mono HB1.out.size))
  clear hb HIW HB1
  go_wp2_with fail
  refine (HCK.out _ HB2.out).mono ?_
  rintro e w3 ⟨rfl, hb⟩
  have HB3 := hid (HB2.out.trans (hb.mono HB2.out.size))
  clear hb HCK HB2
  go_wp2_with fail
  refine (HPE.out _).mono ?_
  rintro e w4 ⟨rfl, hb⟩
  have HB4 := hid (HB3.out.trans (hb.mono HB3.out.size))
  clear hb HPE HB3
  go_wp2_with fail
  refine (HCD.out _ HB4.out).mono ?_
  rintro e w5 ⟨rfl, hb⟩
  have HB5 := hid (HB4.out.trans (hb.mono HB4.out.size))
  clear hb HCD HB4
  have wq : (wildB p != wildB p) = false := by simp
  go_wp2_with fail
  refine (HWC.out _ HB5.out).mono ?_
  rintro e w6 ⟨rfl, hb⟩
  have HB6 := hid (HB5.out.trans (hb.mono HB5.out.size))
  clear hb HWC HB5
  generalize wildB p = wb at *
  go_wp2_with fail
  go_loopw [7, 8, 9] (fun ov nv iv wr => ∃ i : Nat, i ≤ X.length ∧ iv = .int .i64 i ∧ Hid (Pw w wr ov nv (X.take i) ((X.take i).filter (ismB p))) ∧ Hid (∀ j (h : j < X.length), j < i → X[j].size ≤ 60)) (fun _ _ iv _ => X.length - (intOf iv).toNat)
  case atStart => exact ⟨0, Nat.zero_le _, rfl, hid ⟨World.ownsRow_nil _ _ _ _, World.ownsRow_nil _ _ _ _, fun b h => by simp [Value.ownBlock] at h, HB6.out⟩, hid (fun j _ h => absurd h (Nat.not_lt_zero _))⟩
  case round =>
    obtain ⟨i, hi9, rfl, HPW, HSZ⟩ := hrel
    by_cases hlt : i < X.length
    · have hiI := ix_lt hlt
      have hi0 := ix_pos i
      have HLT := hid hlt
      obtain ⟨la, lc, hla, -, hcells⟩ := HX.out _ HPW.out.bl
      obtain ⟨lb, lo, rfl, hcc⟩ := hcells (by intro h; rw [h] at hlt; simp at hlt)
      injection hla with hla1 hla2 hla3
      subst hla1
      have y0 := hcc i hlt
      have HLB := hid (HVB.out lb lo _ _ rfl (by intro h; rw [h] at hlt; simp at hlt))
      have HCL := hid (fun W (h : Below wr.heap.size wr W) => cell_below h y0)
      have HTK := hid (List.take_succ_eq_append_getElem hlt)
      have HFY := hid (fun h => flt_yes (p := p) hlt h)
      have HFN := hid (fun h => flt_no (p := p) hlt h)
      have HZN := hid (show X[i].size ≤ 60 → ∀ j (h : j < X.length), j < i + 1 → X[j].size ≤ 60 from fun h0 j h1 h2 => by
        rcases Nat.lt_or_ge j i with h | h
        · exact HSZ.out j h1 h
        · have : j = i := by omega
          subst this; exact h0)
      have HLE := hid (show (X.take i).length ≤ 15 by rw [List.length_take]; omega)
      have HLF := hid (show ((X.take i).filter (ismB p)).length ≤ 15 from Nat.le_trans (List.length_filter_le _ _) HLE.out)
      clear hcells hcc hla2 hla3 HX
      generalize X[i] = x at *
      by_cases hsz : x.size ≤ 60
      · have gz : ¬ (60 : Int) < (x.size : Int) := by omega
        have HI := hid (HIM.out x wr hsz)
        have HM := hid (fun W (h : Below w.heap.size w W) => HMC.out x W hsz h)
        have HZ2 := hid (HZN.out hsz)
        generalize (X.take i).filter (ismB p) = Y at *
        generalize X.take i = Xi at *
        cases hz : ismB p x
        · rw [hz] at HI HM
          have HF := hid (HFN.out hz)
          clear hz hsz hlt HFY HFN HZN
          go_wp2_with fail
          refine HI.out.mono ?_
          rintro e w7 ⟨rfl, hb⟩
          have HPW7 := hid (HPW.out.below hb)
          have y1 := HCL.out _ hb
          have HB7 := hid hb
          clear hb
          go_wp2_with fail
          refine (HM.out _ HPW7.out.bl).mono ?_
          rintro e w8 ⟨rfl, hb⟩
          have HPW8 := hid (HPW7.out.below hb)
          have y2 := HCL.out _ (HB7.out.trans (hb.mono HB7.out.size))
          clear hb y0 y1
          go_wp2_with (at_builtin; refine wpList_append_lies _ rfl _ _ 22 rfl w.heap.size 9 i0 _ 1 16 Tryz.underlying22 hi hz0 hz1 hz2 rfl (by decide) _ _ _ rfl (HPW8.out.own.alloc _) ⟨w8.heap.size, 0, none⟩ 1 1 [.string x] rfl rfl ?c1 ?c2 (by decide) ?c3 ?c4 ?c5 (w8.heap.size + 1) (by simp) ?_)
          case c1 => exact World.news_of_block (cs := #[.string x]) (heap_new _ _)
          case c2 => intro u hu; simp at hu; rw [hu]; rfl
          case c3 => have := HLE.out; unfold maxLen; omega
          case c4 => have := HLE.out; omega
          case c5 => have := HPW8.out.bl.size; simp; omega
          intro g cap w9 hown hgrow hat _
          have HPW9 := hid (HPW8.out.app hown hgrow hat)
          clear hown hgrow hat
          go_wp2_with fail
          go_roundw
          case rel => exact ⟨i + 1, HLT.out, by first | exact nr_idx i | exact nx_idx HLT.out (by omega : X.length ≤ 1000000), hid (by rw [HF.out, HTK.out]; exact HPW9.out), HZ2⟩
          case measure => first | exact nr_meas HLT.out | exact nx_meas HLT.out (by omega : X.length ≤ 1000000)
        · rw [hz] at HI HM
          have HF := hid (HFY.out hz)
          clear hz hsz hlt HFY HFN HZN
          go_wp2_with fail
          refine HI.out.mono ?_
          rintro e w7 ⟨rfl, hb⟩
          have HPW7 := hid (HPW.out.below hb)
          have y1 := HCL.out _ hb
          have HB7 := hid hb
          clear hb
          go_wp2_with fail
          refine (HM.out _ HPW7.out.bl).mono ?_
          rintro e w8 ⟨rfl, hb⟩
          have HPW8 := hid (HPW7.out.below hb)
          have HB8 := hid (HB7.out.trans (hb.mono HB7.out.size))
          have y2 := HCL.out _ HB8.out
          clear hb y0 y1
          go_wp2_with (at_builtin; refine wpList_append_lies _ rfl _ _ 22 rfl w.heap.size 9 i0 _ 1 16 Tryz.underlying22 hi hz0 hz1 hz2 rfl (by decide) _ _ _ rfl (HPW8.out.own.alloc _) ⟨w8.heap.size, 0, none⟩ 1 1 [.string x] rfl rfl ?c1 ?c2 (by decide) ?c3 ?c4 ?c5 (w8.heap.size + 1) (by simp) ?_)
          case c1 => exact World.news_of_block (cs := #[.string x]) (heap_new _ _)
          case c2 => intro u hu; simp at hu; rw [hu]; rfl
          case c3 => have := HLE.out; unfold maxLen; omega
          case c4 => have := HLE.out; omega
          case c5 => have := HPW8.out.bl.size; simp; omega
          intro g cap w9 hown hgrow hat _
          have HPW9 := hid (HPW8.out.app hown hgrow hat)
          have y3 : w9.cell? ⟨lb, lo + i, none⟩ = some (.string x) := by
            rw [hgrow.cell_far _ (by have := lt_of_cell y2; simp at this ⊢; omega) (fun e => by
              have h1 := (HPW8.out.own.lt lb e.symm).1
              have h2 := HLB.out
              omega)]
            exact cell_below ((Below.refl _ _).alloc (Nat.le_refl _) _) y2
          clear hown hgrow hat y2
          generalize hXL : Xi.length + 1 = xl at *
          go_wp2_with (at_builtin; refine wpList_append_lies _ rfl _ _ 22 rfl w.heap.size 9 i0 _ 1 16 Tryz.underlying22 hi hz0 hz1 hz2 rfl (by decide) _ _ _ rfl (HPW9.out.wnt.alloc _) ⟨w9.heap.size, 0, none⟩ 1 1 [.string x] rfl rfl ?d1 ?d2 (by decide) ?d3 ?d4 ?d5 (w9.heap.size + 1) (by simp) ?_)
          case d1 => exact World.news_of_block (cs := #[.string x]) (heap_new _ _)
          case d2 => intro u hu; simp at hu; rw [hu]; rfl
          case d3 => have := HLF.out; unfold maxLen; omega
          case d4 => have := HLF.out; omega
          case d5 => have := HPW9.out.bl.size; simp; omega
          intro g2 cap2 w10 hown hgrow hat _
          have HPWa := hid (HPW9.out.swap.app hown hgrow hat).swap
          clear hown hgrow hat
          go_wp2_with fail
          go_roundw
          case rel => exact ⟨i + 1, HLT.out, by first | exact nr_idx i | exact nx_idx HLT.out (by omega : X.length ≤ 1000000), hid (by rw [HF.out, HTK.out]; exact HPWa.out), HZ2⟩
          case measure => first | exact nr_meas HLT.out | exact nx_meas HLT.out (by omega : X.length ≤ 1000000)
      · have gz : (60 : Int) < (x.size : Int) := by omega
        clear hsz hlt
        go_wp2_with fail
        go_ret
        exact ⟨rfl, HPW.out.bl⟩
    · have hiI := ix_nlt hlt
      have hie : i = X.length := by omega
      subst hie
      rw [List.take_length] at HPW
      have HSX := hid (show ∀ x, x ∈ X → x.size ≤ 60 from fun x hx => by
        obtain ⟨j, hj, e⟩ := List.getElem_of_mem hx
        rw [← e]; exact HSZ.out j hj hj)
      have HSO := hid (HSC.out _ wr HPW.out.bl HSX.out (own_tx HPW.out.own))
      obtain ⟨oa, oc, ho, hoz⟩ := own_zero HPW.out.own
      obtain ⟨na, nc, hn, hnz⟩ := own_zero HPW.out.wnt
      have HTN := hid (own_tx HPW.out.wnt)
      subst ho hn
      clear hlt
      go_wp2_with fail
      refine HSO.out.mono ?_
      rintro e w7 ⟨u, rfl, hu, hb⟩
      have HB7 := hid hb
      have HPW7 := hid (HPW.out.below hb)
      obtain ⟨ua, uc, hue, huz⟩ := own_zero hu
      subst hue
      obtain ⟨na', nc', e1, _, hnc⟩ := HTN.out.below hb
      injection e1 with e2 e3 e4
      subst e2
      have HSAME := hid (same_all ua na uc nc (X.filter (ismB p)) (X.filter (ismB p)) w7 (Nat.le_trans (List.length_filter_le _ _) (by omega)) huz hnc)
      rw [decide_eq_true rfl] at HSAME
      have HXL := hid (fun W (h : Below w.heap.size w W) => HX.out W h)
      have HOZ := hid (fun W (h : Below wr.heap.size wr W) => show X = [] ∨ ∃ g, oa = some ⟨g, 0, none⟩ ∧ ∀ j (hj : j < X.length), W.cell? ⟨g, j, none⟩ = some (.string X[j]) by
        rcases hoz with h0 | ⟨g, h1, h2⟩
        · exact Or.inl h0
        · exact Or.inr ⟨g, h1, fun j hj => cell_below h (h2 j hj)⟩)
      clear hb hu hoz hnz huz hnc
      try clear e3
      try clear e4
      generalize (X.filter (ismB p)).length = fl at *
      go_wp2_with fail
      refine HSAME.out.mono ?_
      rintro e w8 ⟨rfl, hb⟩
      have HB8 := hid (HB7.out.trans (hb.mono HB7.out.size))
      have HBW := hid (HPW.out.bl.trans (HB8.out.mono HPW.out.bl.size))
      obtain ⟨la, lc, hla, _, hlcc⟩ := HXL.out _ HBW.out
      injection hla with f1 f2 f3
      subst f1
      have HS2 := hid (same_all oa va oc vc X X w8 (by omega) (HOZ.out _ HB8.out) hlcc)
      rw [decide_eq_true rfl] at HS2
      clear hb hlcc
      try clear f2
      try clear f3
      go_wp2_with fail
      refine HS2.out.mono ?_
      rintro e w9 ⟨rfl, hb⟩
      have HBe := hid (HBW.out.trans (hb.mono HBW.out.size))
      clear hb
      go_wp2_with fail
      go_ret
      exact ⟨rfl, HBe.out⟩
end Ve
end Go.Proofs.YtemhofbhmnnijaaGreatDoor
