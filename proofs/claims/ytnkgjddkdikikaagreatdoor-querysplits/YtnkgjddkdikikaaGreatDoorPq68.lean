/-
  QkA
-/
import Derived.Test.YtnkgjddkdikikaaGreatDoorPq3
import Derived.Test.YtnkgjddkdikikaaGreatDoorPq4
import Derived.Test.YtnkgjddkdikikaaGreatDoorPq8
import Derived.Test.YtnkgjddkdikikaaGreatDoorPq7
import Derived.Test.YtnkgjddkdikikaaGreatDoorPq12
import Derived.Test.YtnkgjddkdikikaaGreatDoorPq10
import Derived.Test.YtnkgjddkdikikaaGreatDoorPq13
import Derived.Test.YtnkgjddkdikikaaGreatDoorPq23
import Derived.Test.YtnkgjddkdikikaaGreatDoorPq27
import Derived.Test.YtnkgjddkdikikaaGreatDoorPq29
import Derived.Test.YtnkgjddkdikikaaGreatDoorPq31
import Derived.Test.YtnkgjddkdikikaaGreatDoorPq32
import Derived.Test.YtnkgjddkdikikaaGreatDoorPq5
import Derived.Test.YtnkgjddkdikikaaGreatDoorPq37
import Derived.Test.YtnkgjddkdikikaaGreatDoorPq61
import Derived.Test.YtnkgjddkdikikaaGreatDoorPq62
import Derived.Test.YtnkgjddkdikikaaGreatDoorPq24
import Derived.Test.YtnkgjddkdikikaaGreatDoorPq18
import Derived.Test.YtnkgjddkdikikaaGreatDoorPq66
import Derived.Test.YtnkgjddkdikikaaGreatDoorPq67
namespace Go.Proofs.YtnkgjddkdikikaaGreatDoor
open Go.RowKit
namespace Ve
set_option maxRecDepth 100000 in
set_option maxHeartbeats 2000000 in
theorem pick_q (t q now : ByteArray) (a : Option Addr) (n c : Nat) (A : Nat → Addr) (m : Int) (w : World) (hq : q.size ≤ 100) (S : Te w A m) (h : qErr q ≠ 0) :
    Calls Tryz.prog 33 #[.slice a n c, .string t, .string q, .string now] w fun e w' => e = .returned (.tuple #[.string ⟨#[]⟩, errA A (qErr q)]) ∧ Below w.heap.size w w' := by
  have HC := hid (check_c q A m w hq S)
  obtain ⟨ea, he⟩ := errA_ne A h
  have HE := hid he
  rw [he] at HC
  clear S h he
  go_enter Tryz.func33, Tryz.ntmps33
  go_wp2_with fail
  refine HC.out.mono ?_
  rintro e w1 ⟨rfl, hb⟩
  have HB := hid hb
  clear hb
  go_wp2_with fail
  go_ret2
  exact ⟨by rw [HE.out]; rfl, HB.out⟩
theorem chk_ok {q : ByteArray} {A : Nat → Addr} (h : qErr q = 0) : errA A (qErr q) = .nilIface := by rw [h]; rfl
set_option maxRecDepth 100000 in
set_option maxHeartbeats 2000000 in
theorem pick_idx (Q : List Raw) (L : List Ent) (t q now : ByteArray) (v : Value) (A : Nat → Addr) (m : Int) (w : World) (hL : L.length ≤ 200) (sh : ∀ e, e ∈ L → ShE e) (hq : q.size ≤ 100) (S : Te w A m) (I : Ixs w v Q L) (h : qErr q = 0) (hc : (chk Q L).1 ≠ 0) :
    Calls Tryz.prog 33 #[v, .string t, .string q, .string now] w fun e w' => ∃ x, e = .returned (.tuple #[.string ⟨#[]⟩, x]) ∧ ErrAt w' A x (chk Q L).1 (chk Q L).2 ∧ Below w.heap.size w w' := by
  have HC := hid (check_c q A m w hq S)
  rw [chk_ok h] at HC
  have HI := hid (fun W (hb : Below w.heap.size w W) => icheck_any Q L v A m W (by omega) sh (S.below hb) (I.below hb))
  have HNZ := hid hc
  obtain ⟨a, c, rfl, -⟩ := I.es
  clear S h I hc
  go_enter Tryz.func33, Tryz.ntmps33
  go_wp2_with fail
  refine HC.out.mono ?_
  rintro e w1 ⟨rfl, hb⟩
  have HB := hid hb
  clear hb
  go_wp2_with fail
  refine (HI.out _ HB.out).mono ?_
  rintro e w2 ⟨x, rfl, hx, hb⟩
  have HB2 := hid (HB.out.trans (hb.mono HB.out.size))
  have HX := hid hx
  rcases hx.kind with ⟨h0, -⟩ | ⟨-, T, ea, rfl⟩
  · exact absurd h0 HNZ.out
  clear hx hb
  go_wp2_with fail
  go_ret2
  exact ⟨_, rfl, HX.out, HB2.out⟩
set_option maxRecDepth 100000 in
set_option maxHeartbeats 2000000 in
theorem pick_no (Q : List Raw) (L : List Ent) (t now : ByteArray) (v : Value) (A : Nat → Addr) (m : Int) (w : World) (hL : L.length ≤ 200) (sh : ∀ e, e ∈ L → ShE e) (S : Te w A m) (I : Ixs w v Q L) (hc : (chk Q L).1 = 0) :
    Calls Tryz.prog 33 #[v, .string t, .string bNone, .string now] w fun e w' => e = .returned (.tuple #[.string bNone, .nilIface]) ∧ Below w.heap.size w w' := by
  have HC := hid (check_c bNone A m w (by decide) S)
  rw [chk_ok (qErr_word rfl)] at HC
  have HI := hid (fun W (hb : Below w.heap.size w W) => icheck_any Q L v A m W (by omega) sh (S.below hb) (I.below hb))
  have HNZ := hid hc
  have k1 : (bNone.toList == [110, 111, 110, 101]) = true := by rw [ByteArray.toList_eq]; rfl
  have HBN := hid (show bNone = ⟨#[110, 111, 110, 101]⟩ from rfl)
  generalize bNone = q at *
  obtain ⟨a, c, rfl, -⟩ := I.es
  clear S I hc
  go_enter Tryz.func33, Tryz.ntmps33
  go_wp2_with fail
  refine HC.out.mono ?_
  rintro e w1 ⟨rfl, hb⟩
  have HB := hid hb
  clear hb
  go_wp2_with fail
  refine (HI.out _ HB.out).mono ?_
  rintro e w2 ⟨x, rfl, hx, hb⟩
  have HB2 := hid (HB.out.trans (hb.mono HB.out.size))
  have hx0 : x = .nilIface := by
    rcases hx.kind with ⟨-, h⟩ | ⟨h0, -⟩
    · exact h
    · exact absurd HNZ.out h0
  subst hx0
  clear hx hb
  go_wp2_with fail
  go_ret2
  exact ⟨by rw [HBN.out]; rfl, HB2.out⟩
def tkY (q now : ByteArray) (Y : List ByteArray) : ByteArray := if begB q sGt then headT Y else if q = bUpgrade then maxB (lastT Y) now else lastT Y
theorem tkY_head {q now : ByteArray} {Y : List ByteArray} (h : begB q sGt = true) : tkY q now Y = headT Y := if_pos h
theorem tkY_up {q now : ByteArray} {Y : List ByteArray} (h : begB q sGt = false) (h2 : q = bUpgrade) : tkY q now Y = maxB (lastT Y) now := by unfold tkY; rw [if_neg (by rw [h]; simp), if_pos h2]
theorem tkY_last {q now : ByteArray} {Y : List ByteArray} (h : begB q sGt = false) (h2 : ¬ q = bUpgrade) : tkY q now Y = lastT Y := by unfold tkY; rw [if_neg (by rw [h]; simp), if_neg h2]
set_option maxRecDepth 100000 in
set_option maxHeartbeats 4000000 in
theorem pick_go (Q : List Raw) (L : List Ent) (t q now : ByteArray) (v : Value) (A : Nat → Addr) (m : Int) (w : World) (hL : L.length ≤ 200) (sh : ∀ e, e ∈ L → ShE e) (hz : shortQ Q) (hq : q.size ≤ 100) (hnow : now.size ≤ 100) (S : Te w A m) (htab : Lib.TabIs Tryz.prog w powName .u64 Lib.pow10Tab) (I : Ixs w v Q L) (hk : look Q L q) :
    Calls Tryz.prog 33 #[v, .string t, .string q, .string now] w fun e w' => ∃ Y, Kept (verL (bestR (ofP t (fitR q now Q)))) (verL (bestR (ofP t (fitR q now Q)))).length Y ∧
      ((Y = [] ∧ e = .returned (.tuple #[.string ⟨#[]⟩, errA A 5])) ∨ (0 < Y.length ∧ e = .returned (.tuple #[.string (tkY q now Y), .nilIface]))) ∧ Below w.heap.size w w' := by
  obtain ⟨hqe, hce, hqn⟩ := hk
  have HC := hid (check_c q A m w hq S)
  rw [chk_ok hqe] at HC
  have HI := hid (fun W (hb : Below w.heap.size w W) => icheck_any Q L v A m W (by omega) sh (S.below hb) (I.below hb))
  have HNZ := hid hce
  have HGD := hid (good_of I hce)
  have HEN := hid (fun W (hb : Below w.heap.size w W) => I.es.below hb)
  have HSZ := hid hz
  have hqL : Q.length ≤ 200 := by rw [I.ln]; exact hL
  have k1 : (q.toList == [110, 111, 110, 101]) = false := by rw [show ([110, 111, 110, 101] : List UInt8) = bNone.data.toList from rfl, ← eqW]; exact decide_eq_false hqn
  have HFT := hid (fun W (hb : Below w.heap.size w W) => qfits_any q now A m W hq hnow hqn (S.below hb) (tab_below htab hb))
  have HWH := hid (fun K cb W (hb : Below w.heap.size w W) eg hK => qwhere_any K cb (fun r => okQ q now r.1.2) Q v W eg (by omega) (I.es.below hb) hK)
  have HBE := hid (fun u W (hb : Below w.heap.size w W) (he : EsAt W u (fitR q now Q)) => ibest_any (fitR q now Q) t u (A 0) (A 1) m W (Nat.le_trans (List.length_filter_le _ _) (by omega)) (fun r hr => hz r (List.mem_filter.1 hr).1) (S.below hb).vs (tab_below htab hb) he)
  have HMX := hid (fun x W (hb : Below w.heap.size w W) (hx : x.size < 999999) => max_any x now (A 0) (A 1) m W hx (by omega) (S.below hb).vs)
  have HHP := hid (fun W => Tryz.strings_HasPrefix q ⟨#[62]⟩ W)
  have HS := hid (fun W (hb : Below w.heap.size w W) => S.below hb)
  have HBG := hid (show begB q sGt = Lib.hasPrefix q.data.toList ([62] : List UInt8) from rfl)
  have HYS := hid (fun Y (hY : Kept (verL (bestR (ofP t (fitR q now Q)))) (verL (bestR (ofP t (fitR q now Q)))).length Y) y (hy : y ∈ Y) => show y.size < 999999 by
    obtain ⟨r, hr, rfl⟩ := kept_has (HGD.out.filter (fun r => okQ q now r.1.2)) (R := bestR (ofP t (fitR q now Q))) (fun r hr => ofP_sub r (bestR_sub hr)) hY hy
    have := (hz r (List.mem_filter.1 (ofP_sub r (bestR_sub hr))).1).2
    omega)
  obtain ⟨a, c, rfl, -⟩ := id I.es
  clear S I hce hqe htab hz sh
  go_enter Tryz.func33, Tryz.ntmps33
  go_wp2_with fail
  refine HC.out.mono ?_
  rintro e w1 ⟨rfl, hb⟩
  have HB := hid hb
  clear hb
  go_wp2_with fail
  refine (HI.out _ HB.out).mono ?_
  rintro e w2 ⟨x, rfl, hx, hb⟩
  have HB2 := hid (HB.out.trans (hb.mono HB.out.size))
  have hx0 : x = .nilIface := by
    rcases hx.kind with ⟨-, h⟩ | ⟨h0, -⟩
    · exact h
    · exact absurd HNZ.out h0
  subst hx0
  clear hx hb HB HC HI HNZ
  go_wp2_with fail
  refine (HFT.out _ HB2.out).mono ?_
  rintro e w3 ⟨f, rfl, ⟨K, cb, rfl, eg, hK⟩, hb⟩
  have HB3 := hid (HB2.out.trans (hb.mono HB2.out.size))
  have HW3 := hid (HWH.out K cb w3 HB3.out eg (fun i hi W hW => hK W Q[i].1.2 hW (by have := (HSZ.out Q[i] (List.getElem_mem hi)).2; omega) (HGD.out.ver Q[i] (List.getElem_mem hi))))
  clear hb eg hK HFT HWH HB2 HEN
  go_wp2_with fail
  refine HW3.out.mono ?_
  rintro e w4 ⟨u, rfl, hu, hb⟩
  have HB4 := hid (HB3.out.trans (hb.mono HB3.out.size))
  have HB5 := hid (HBE.out u w4 HB4.out hu)
  obtain ⟨ua, uc, rfl, -⟩ := hu
  clear hb HW3 HBE HB3
  generalize (Q.filter fun r => okQ q now r.1.2).length = un at *
  go_wp2_with fail
  refine HB5.out.mono ?_
  rintro e w5 ⟨y, rfl, Y, ho, hY, hb⟩
  have HB6 := hid (HB4.out.trans (hb.mono HB4.out.size))
  have HKY := hid hY
  have HYZ := hid (HYS.out Y hY)
  obtain ⟨ya, yc, hyv, _, hcell⟩ := own_tx ho
  subst hyv
  have HCC := hid hcell
  have hmx := own_max ho
  clear ho hb hY hcell HYS HB5
  by_cases hX : 0 < Y.length
  · obtain ⟨b, o, rfl, hcc⟩ := HCC.out (by intro h; rw [h] at hX; simp at hX)
    have hne : ((Y.length : Int) == 0) = false := by rw [beq_eq_false_iff_ne]; omega
    have hpos : (0 : Int) < (Y.length : Int) := by omega
    have HPOS := hid hX
    cases hg : begB q sGt
    · rw [← HBG.out, hg] at HHP
      have hlast := hcc (Y.length - 1) (by omega)
      have HLT := hid (lastT_get hX)
      have HLZ := hid (HYZ.out _ (List.getElem_mem (show Y.length - 1 < Y.length by omega)))
      rw [← HLT.out] at hlast HLZ
      have hx1 : (Y.length : Int) - 1 = ((Y.length - 1 : Nat) : Int) := by omega
      have hx2 : ((Y.length - 1 : Nat) : Int) < (Y.length : Int) := by omega
      have hw64 : wrap64 ((Y.length - 1 : Nat) : Int) = ((Y.length - 1 : Nat) : Int) := IntWalk.wrap64_in _ (by unfold maxLen at hmx; omega)
      have htn : ((Y.length - 1 : Nat) : Int).toNat = Y.length - 1 := Int.toNat_natCast _
      by_cases hu : q = bUpgrade
      · have k2 : (q.toList == [117, 112, 103, 114, 97, 100, 101]) = true := by rw [hu, ByteArray.toList_eq]; rfl
        have HTK := hid (tkY_up (now := now) (Y := Y) hg hu)
        clear hcc HLT hX hu hg
        generalize lastT Y = ly at *
        go_wp2_with fail
        refine (HHP.out _).mono ?_
        rintro e w6 ⟨rfl, rfl⟩
        go_wp2_with fail
        refine (HMX.out ly _ HB6.out HLZ.out).mono ?_
        rintro e w7 ⟨rfl, hb⟩
        have HB7 := hid (HB6.out.trans (hb.mono HB6.out.size))
        clear hb
        go_wp2_with fail
        go_ret2
        exact ⟨Y, HKY.out, Or.inr ⟨HPOS.out, by rw [HTK.out]; rfl⟩, HB7.out⟩
      · have k2 : (q.toList == [117, 112, 103, 114, 97, 100, 101]) = false := by rw [show ([117, 112, 103, 114, 97, 100, 101] : List UInt8) = bUpgrade.data.toList from rfl, ← eqW]; exact decide_eq_false hu
        have HTK := hid (tkY_last (now := now) (Y := Y) hg hu)
        clear hcc HLT hX hu hg
        generalize lastT Y = ly at *
        go_wp2_with fail
        refine (HHP.out _).mono ?_
        rintro e w6 ⟨rfl, rfl⟩
        go_wp2_with fail
        go_ret2
        exact ⟨Y, HKY.out, Or.inr ⟨HPOS.out, by rw [HTK.out]; rfl⟩, HB6.out⟩
    · rw [← HBG.out, hg] at HHP
      have hfirst := hcc 0 hX
      rw [Nat.add_zero] at hfirst
      have HLT := hid (headT_get hX)
      rw [← HLT.out] at hfirst
      have HTK := hid (tkY_head (now := now) (Y := Y) hg)
      clear hcc HLT hX hg
      generalize headT Y = hy at *
      go_wp2_with fail
      refine (HHP.out _).mono ?_
      rintro e w6 ⟨rfl, rfl⟩
      go_wp2_with fail
      go_ret2
      exact ⟨Y, HKY.out, Or.inr ⟨HPOS.out, by rw [HTK.out]; rfl⟩, HB6.out⟩
  · have hx0 : Y = [] := List.eq_nil_of_length_eq_zero (by omega)
    subst hx0
    have g4 := (HS.out _ HB6.out).sen.g4
    clear hX hmx HCC HYZ
    go_wp2_with fail
    go_region
    all_goals (try go_wp2)
    all_goals
      refine bodyPost_ret (v := .tuple #[.string ⟨#[]⟩, .iface 311 (.pointer (some (A 4)))]) (by simp [results, Tryz.results33, go_sem]) rfl ?_
      exact ⟨[], HKY.out, Or.inl ⟨rfl, rfl⟩, HB6.out.drew⟩
def TabT (w : World) : Prop := Lib.TabIs Tryz.prog w powName .u64 Lib.pow10Tab
theorem keep_tab : KeepT TabT := fun _ _ h hb => tab_below h hb
theorem up_noleast : leastQ bUpgrade = false := rfl
theorem pick_c : PickC TabT := fun Q L t q now v A m w hL sh hz ht hq hnow S hT I => by
  obtain ⟨a, c, hv, -⟩ := id I.es
  by_cases hqe : qErr q ≠ 0
  · subst hv
    refine (pick_q t q now a _ c A m w hq S hqe).mono fun e w' ⟨h1, h2⟩ => ⟨[], errA A (qErr q), fun h => absurd h.1 hqe, ?_, ?_, h2⟩
    · rw [pkV_q hqe]; exact h1
    · rw [pkF_q hqe]; rfl
  have hq0 : qErr q = 0 := by omega
  by_cases hce : (chk Q L).1 ≠ 0
  · refine (pick_idx Q L t q now v A m w hL sh hq S I hq0 hce).mono fun e w' ⟨x, h1, h2, h3⟩ => ⟨[], x, fun h => absurd h.2.1 hce, ?_, ?_, h3⟩
    · rw [pkV_c hqe hce]; exact h1
    · rw [pkF_c hqe hce]; exact h2
  have hc0 : (chk Q L).1 = 0 := by omega
  by_cases hn : q = bNone
  · subst hn
    refine (pick_no Q L t now v A m w hL sh S I hc0).mono fun e w' ⟨h1, h2⟩ => ⟨[], .nilIface, fun h => absurd rfl h.2.2, ?_, ?_, h2⟩
    · rw [pkV_n hqe hce rfl]; exact h1
    · rw [pkF_n hqe hce rfl]; rfl
  have g := good_of I hc0
  obtain ⟨X, hK⟩ := kept_ex (L := verL (ofP t Q)) (verL_ok g ofP_sub)
  refine (pick_go Q L t q now v A m w hL sh hz hq hnow S hT I ⟨hq0, hc0, hn⟩).mono ?_
  rintro e w' ⟨Y, hY, h1, h2⟩
  rcases h1 with ⟨hY0, rfl⟩ | ⟨hYp, rfl⟩
  · subst hY0
    have hb := pkB_none (q := q) (now := now) g hK hY
    refine ⟨X, errA A 5, fun _ => hK, ?_, ?_, h2⟩
    · rw [pkV_m hqe hce hn, if_pos hb]; rfl
    · rw [pkF_m hqe hce hn, if_pos hb]; rfl
  · have hb := pkB_some (q := q) (now := now) g hK hY hYp
    refine ⟨X, .nilIface, fun _ => hK, ?_, ?_, h2⟩
    · rw [pkV_m hqe hce hn, if_neg hb]
      have e1 := pkB_is (q := q) (now := now) g hK hY
      unfold tkY
      rw [least_beg]
      by_cases hu : q = bUpgrade
      · rw [if_pos hu, if_pos hu, e1, hu, up_noleast]; rfl
      · rw [if_neg hu, if_neg hu, e1]
    · rw [pkF_m hqe hce hn, if_neg hb]; rfl
end Ve
end Go.Proofs.YtnkgjddkdikikaaGreatDoor
