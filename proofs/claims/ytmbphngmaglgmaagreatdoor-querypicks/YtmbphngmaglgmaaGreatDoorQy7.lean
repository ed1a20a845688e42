/-
  What query.where answers: the entries whose version a function takes, in a row of its own; nothing old in memory turns.
-/
import Derived.Test.YtmbphngmaglgmaaGreatDoorQy2
import Derived.Test.YtmbphngmaglgmaaGreatDoorQy6
import Derived.Test.YtmbphngmaglgmaaGreatDoorQy3
import Derived.Test.YtmbphngmaglgmaaGreatDoorQy4
import Derived.Test.YtmbphngmaglgmaaGreatDoorQy1
import Derived.Deep.RegionHeld
import Derived.Test.YtmbphngmaglgmaaGreatDoorFileQ
import Derived.Laws.OwnMore
import Derived.Test.YtmbphngmaglgmaaGreatDoorCode
import Derived.Test.YtmbphngmaglgmaaGreatDoorQy5
namespace Go.Proofs.YtmbphngmaglgmaaGreatDoor
open Go.RowKit
namespace Ve

set_option maxHeartbeats 4000000 in
set_option maxRecDepth 100000 in
theorem qwhere_some (K : Nat) (cb : Array Value) (P : Raw → Bool) (L : List Raw) (b o c : Nat) (w : World) (eg : ∀ args w, (callFunc K args).run Tryz.prog w = .ok (.enter K args) w) (hL : L.length ≤ 100000) (hs : ∀ r, r ∈ L → slR r)
    (hc : ∀ j (h : j < L.length), w.cell? ⟨b, o + j * 5, none⟩ = some (.string L[j].1.1) ∧ w.cell? ⟨b, o + j * 5 + 1, none⟩ = some (.string L[j].1.2) ∧ w.cell? ⟨b, o + j * 5 + 2, none⟩ = some L[j].2.1 ∧ w.cell? ⟨b, o + j * 5 + 3, none⟩ = some L[j].2.2.1 ∧ w.cell? ⟨b, o + j * 5 + 4, none⟩ = some (.bool L[j].2.2.2))
    (hK : ∀ i (h : i < L.length) W, Below w.heap.size w W → Calls Tryz.prog K (#[.string L[i].1.2] ++ cb) W fun e w' => e = .returned (.bool (P L[i])) ∧ Below W.heap.size W w') :
    Calls Tryz.prog 34 #[.slice (some ⟨b, o, none⟩) L.length c, .func (.func K) #[] cb] w fun e w' => ∃ v, e = .returned v ∧ w'.ownsRow w.heap.size 56 5 v (L.filter P).length (flatR (L.filter P)) ∧ Below w.heap.size w w' := by
  obtain ⟨i0, hi0, hz0, hz1, hz2⟩ := info_parts infoEnt
  have HK := hid hK
  have HC := hid hc
  have HSL := hid hs
  clear hK hc hs
  go_enter Tryz.func34, Tryz.ntmps34
  go_wp2_with fail
  go_loopw [5, 10] (fun ov i wr => ∃ k : Nat, k ≤ L.length ∧ i = .int .i64 k ∧ Hid (wr.ownsRow w.heap.size 56 5 ov ((L.take k).filter P).length (flatR ((L.take k).filter P))) ∧ Hid (Below w.heap.size w wr)) (fun _ i _ => L.length - (intOf i).toNat)
  case atStart => exact ⟨0, Nat.zero_le _, rfl, hid (World.ownsRow_nil _ _ _ _), hid (Below.refl _ _)⟩
  case round =>
    obtain ⟨k, hk, rfl, HO, HB⟩ := hrel
    by_cases hlt : k < L.length
    · obtain ⟨y0, y1, y2, y3, y4⟩ := HC.out k hlt
      have x0 := cell_below HB.out y0
      have x1 := cell_below HB.out y1
      have x2 := cell_below HB.out y2
      have x3 := cell_below HB.out y3
      have x4 := cell_below HB.out y4
      have hsl := HSL.out L[k] (List.getElem_mem hlt)
      have hkI : (k : Int) < (L.length : Int) := by omega
      have HLT := hid hlt
      have HY := hid (fun h => filter_yes hlt h (P := P))
      have HN := hid (fun h => filter_no hlt h (P := P))
      have HKK := hid (fun W hW => HK.out k hlt W hW)
      have HLN := hid (show ((L.take k).filter P).length ≤ 100000 from Nat.le_trans (List.length_filter_le _ _) (by rw [List.length_take]; omega))
      clear y0 y1 y2 y3 y4
      generalize L[k] = x at *
      obtain ⟨⟨p, q⟩, rv, pv, bk⟩ := x
      obtain ⟨⟨ra, rn, rc, hrv⟩, pa, pn, pc, hpv⟩ := hsl
      simp only at hrv hpv
      subst hrv
      subst hpv
      have HBa := hid (HB.out.alloc HB.out.size (.cells #[.string p, .string q, .slice ra rn rc, .slice pa pn pc, .bool bk] 56))
      have HP := hid (HKK.out _ HBa.out)
      have HOa := hid (HO.out.alloc (.cells #[.string p, .string q, .slice ra rn rc, .slice pa pn pc, .bool bk] 56))
      clear hlt HKK
      cases hp : P ((p, q), .slice ra rn rc, .slice pa pn pc, bk)
      · rw [hp] at HP
        have HN2 := hid (HN.out hp)
        clear hp
        go_wp2_with fail
        refine HP.out.mono ?_
        rintro e w1 ⟨rfl, hb⟩
        have HB1 := hid (HBa.out.trans (hb.mono HBa.out.size))
        have HO1 := hid (owns_below HOa.out hb)
        clear hb
        go_wp2_with fail
        go_roundw
        case rel => exact ⟨k + 1, by have := HLT.out; omega, by go_num, by rw [HN2.out]; exact HO1, HB1⟩
        case measure => have := HLT.out; simp [intOf]; omega
      · rw [hp] at HP
        have HY2 := hid (HY.out hp)
        clear hp
        go_wp2_with fail
        refine HP.out.mono ?_
        rintro e w1 ⟨rfl, hb⟩
        have HB1 := hid (HBa.out.trans (hb.mono HBa.out.size))
        have HO1 := hid (owns_below HOa.out hb)
        have HE1 := hid (show w1.heap[wr.heap.size]? = some (.cells #[.string p, .string q, .slice ra rn rc, .slice pa pn pc, .bool bk] 56 (0, 0)) by rw [hb.block _ (by simp)]; exact heap_alloc_new wr _)
        have z0 : w1.cell? ⟨wr.heap.size, 0, none⟩ = some (.string p) := by rw [Lib.cell_of_heap HE1.out]; rfl
        have z1 : w1.cell? ⟨wr.heap.size, 1, none⟩ = some (.string q) := by rw [Lib.cell_of_heap HE1.out]; rfl
        have z2 : w1.cell? ⟨wr.heap.size, 2, none⟩ = some (.slice ra rn rc) := by rw [Lib.cell_of_heap HE1.out]; rfl
        have z3 : w1.cell? ⟨wr.heap.size, 3, none⟩ = some (.slice pa pn pc) := by rw [Lib.cell_of_heap HE1.out]; rfl
        have z4 : w1.cell? ⟨wr.heap.size, 4, none⟩ = some (.bool bk) := by rw [Lib.cell_of_heap HE1.out]; rfl
        clear hb x0 x1 x2 x3 x4
        go_wp2_with (at_builtin; refine wpList_append_own _ rfl _ _ 22 rfl w.heap.size 56 i0 _ 5 88 Tryz.underlying22 hi0 hz0 hz1 hz2 rfl (by decide) _ _ _ rfl (HO1.out.alloc _) ⟨w1.heap.size, 0, none⟩ 1 1 [.string p, .string q, .slice ra rn rc, .slice pa pn pc, .bool bk] rfl rfl ?c1 ?c2 ?c3 ?c4 ?c5 ?_)
        case c1 => exact World.news_of_block (cs := #[.string p, .string q, .slice ra rn rc, .slice pa pn pc, .bool bk]) (t := 56) (fr := (0, 0)) (heap_alloc_new w1 _)
        case c2 =>
          intro u hu
          simp at hu
          rcases hu with rfl | rfl | rfl | rfl | rfl <;> rfl
        case c3 => have := HLN.out; unfold maxLen; omega
        case c4 => have := HLN.out; omega
        case c5 => have := HB1.out.size; simp; omega
        intro v' w3 hown hgrow _
        have HR3 := hid (rel_app5 HB1.out.size HB1.out HO1.out (Below.refl _ _) hgrow)
        have HO3 := hid hown
        clear hown hgrow z0 z1 z2 z3 z4
        go_wp2_with fail
        go_roundw
        case rel => exact ⟨k + 1, by have := HLT.out; omega, by go_num, hid (own_nextR (x := ((p, q), .slice ra rn rc, .slice pa pn pc, bk)) HO3.out HY2.out), HR3⟩
        case measure => have := HLT.out; simp [intOf]; omega
    · have HTR := hid (show L.take k = L from List.take_of_length_le (by omega))
      rw [HTR.out] at HO
      have hkI : ¬ (k : Int) < (L.length : Int) := by omega
      clear hlt
      go_wp2_with fail
      go_ret
      exact ⟨_, rfl, HO.out, HB.out⟩
theorem qwhere_none (K : Nat) (cb : Array Value) (a : Option Addr) (c : Nat) (w : World) :
    Calls Tryz.prog 34 #[.slice a 0 c, .func (.func K) #[] cb] w fun e w' => e = .returned (.slice none 0 0) ∧ Below w.heap.size w w' := by
  go_enter Tryz.func34, Tryz.ntmps34
  go_wp2_with fail
  go_loopw [5, 10] (fun ov i wr => ov = .slice none 0 0 ∧ i = .int .i64 0 ∧ wr = w) (fun _ i _ => 0)
  case atStart => exact ⟨rfl, rfl, rfl⟩
  case round =>
    obtain ⟨rfl, rfl, rfl⟩ := hrel
    go_wp2_with fail
    go_ret
    exact ⟨rfl, Below.refl _ _⟩
/-- query.where. -/
theorem qwhere_any (K : Nat) (cb : Array Value) (P : Raw → Bool) (L : List Raw) (v : Value) (w : World) (eg : ∀ args w, (callFunc K args).run Tryz.prog w = .ok (.enter K args) w) (hL : L.length ≤ 100000) (hv : EsAt w v L)
    (hK : ∀ i (h : i < L.length) W, Below w.heap.size w W → Calls Tryz.prog K (#[.string L[i].1.2] ++ cb) W fun e w' => e = .returned (.bool (P L[i])) ∧ Below W.heap.size W w') :
    Calls Tryz.prog 34 #[v, .func (.func K) #[] cb] w fun e w' => ∃ v', e = .returned v' ∧ EsAt w' v' (L.filter P) ∧ Below w.heap.size w w' := by
  obtain ⟨a, c, rfl, _, hs, h⟩ := hv
  have hsf : ∀ r, r ∈ L.filter P → slR r := fun r hr => hs r (List.mem_filter.1 hr).1
  cases L with
  | nil => exact (qwhere_none K cb a c w).mono fun e w' ⟨h1, h2⟩ => ⟨_, h1, ⟨none, 0, rfl, Nat.le_refl _, fun r hr => absurd hr (by simp), fun h => absurd rfl h⟩, h2⟩
  | cons x r =>
    obtain ⟨b, o, rfl, h2⟩ := h (by simp)
    exact (qwhere_some K cb P (x :: r) b o c w eg hL hs h2 hK).mono fun e w' ⟨v', h1, h2, h3⟩ => ⟨v', h1, own_es hsf h2, h3⟩
end Ve
end Go.Proofs.YtmbphngmaglgmaaGreatDoor

/-
  query.Pick is as it is asked to be.
-/
namespace Go.Proofs.YtmbphngmaglgmaaGreatDoor
open Go.RowKit
namespace Ve

set_option maxRecDepth 100000 in
set_option maxHeartbeats 2000000 in
theorem pick_q (t q now : ByteArray) (a : Option Addr) (n c : Nat) (A : Nat → Addr) (m : Int) (w : World) (hq : q.size ≤ 100) (S : Te w A m) (h : qErr q ≠ 0) :
    Calls Tryz.prog 13 #[.slice a n c, .string t, .string q, .string now] w fun e w' => e = .returned (.tuple #[.string ⟨#[]⟩, errA A (qErr q)]) ∧ Below w.heap.size w w' := by
  have HC := hid (check_c q A m w hq S)
  obtain ⟨ea, he⟩ := errA_ne A h
  have HE := hid he
  rw [he] at HC
  clear S h he
  go_enter Tryz.func13, Tryz.ntmps13
  go_wp2_with fail
  refine HC.out.mono ?_
  rintro e w1 ⟨rfl, hb⟩
  have HB := hid hb
  clear hb
  go_wp2_with fail
  go_ret2
  exact ⟨by rw [HE.out]; rfl, HB.out⟩
theorem chk_ok {q : ByteArray} {A : Nat → Addr} (h : qErr q = 0) : errA A (qErr q) = .nilIface := by rw [h]; rfl
set_option maxRecDepth 100000 in
set_option maxHeartbeats 2000000 in
theorem pick_idx (Q : List Raw) (L : List Ent) (t q now : ByteArray) (v : Value) (A : Nat → Addr) (m : Int) (w : World) (hL : L.length ≤ 200) (sh : ∀ e, e ∈ L → ShE e) (hq : q.size ≤ 100) (S : Te w A m) (I : Ixs w v Q L) (h : qErr q = 0) (hc : (chk Q L).1 ≠ 0) :
    Calls Tryz.prog 13 #[v, .string t, .string q, .string now] w fun e w' => ∃ x, e = .returned (.tuple #[.string ⟨#[]⟩, x]) ∧ ErrAt w' A x (chk Q L).1 (chk Q L).2 ∧ Below w.heap.size w w' := by
  have HC := hid (check_c q A m w hq S)
  rw [chk_ok h] at HC
  have HI := hid (fun W (hb : Below w.heap.size w W) => icheck_any Q L v A m W (by omega) sh (S.below hb) (I.below hb))
  have HNZ := hid hc
  obtain ⟨a, c, rfl, -⟩ := I.es
  clear S h I hc
  go_enter Tryz.func13, Tryz.ntmps13
  go_wp2_with fail
  refine HC.out.mono ?_
  rintro e w1 ⟨rfl, hb⟩
  have HB := hid hb
  clear hb
  go_wp2_with fail
  refine (HI.out _ HB.out).mono ?_
  rintro e w2 ⟨x, rfl, hx, hb⟩
  have HB2 := hid (HB.out.trans (hb.mono HB.out.size))
  have HX := hid hx
  rcases hx.kind with ⟨h0, -⟩ | ⟨-, T, ea, rfl⟩
  · exact absurd h0 HNZ.out
  clear hx hb
  go_wp2_with fail
  go_ret2
  exact ⟨_, rfl, HX.out, HB2.out⟩
set_option maxRecDepth 100000 in
set_option maxHeartbeats 2000000 in
theorem pick_no (Q : List Raw) (L : List Ent) (t now : ByteArray) (v : Value) (A : Nat → Addr) (m : Int) (w : World) (hL : L.length ≤ 200) (sh : ∀ e, e ∈ L → ShE e) (S : Te w A m) (I : Ixs w v Q L) (hc : (chk Q L).1 = 0) :
    Calls Tryz.prog 13 #[v, .string t, .string bNone, .string now] w fun e w' => e = .returned (.tuple #[.string bNone, .nilIface]) ∧ Below w.heap.size w w' := by
  have HC := hid (check_c bNone A m w (by decide) S)
  rw [chk_ok (qErr_word rfl)] at HC
  have HI := hid (fun W (hb : Below w.heap.size w W) => icheck_any Q L v A m W (by omega) sh (S.below hb) (I.below hb))
  have HNZ := hid hc
  have k1 : (bNone.toList == [110, 111, 110, 101]) = true := by rw [ByteArray.toList_eq]; rfl
  have HBN := hid (show bNone = ⟨#[110, 111, 110, 101]⟩ from rfl)
  generalize bNone = q at *
  obtain ⟨a, c, rfl, -⟩ := I.es
  clear S I hc
  go_enter Tryz.func13, Tryz.ntmps13
  go_wp2_with fail
  refine HC.out.mono ?_
  rintro e w1 ⟨rfl, hb⟩
  have HB := hid hb
  clear hb
  go_wp2_with fail
  refine (HI.out _ HB.out).mono ?_
  rintro e w2 ⟨x, rfl, hx, hb⟩
  have HB2 := hid (HB.out.trans (hb.mono HB.out.size))
  have hx0 : x = .nilIface := by
    rcases hx.kind with ⟨-, h⟩ | ⟨h0, -⟩
    · exact h
    · exact absurd HNZ.out h0
  subst hx0
  clear hx hb
  go_wp2_with fail
  go_ret2
  exact ⟨by rw [HBN.out]; rfl, HB2.out⟩
/-- What is made of the versions that are kept. -/
def tkY (q now : ByteArray) (Y : List ByteArray) : ByteArray := if begB q sGt then headT Y else if q = bUpgrade then maxB (lastT Y) now else lastT Y
theorem tkY_head {q now : ByteArray} {Y : List ByteArray} (h : begB q sGt = true) : tkY q now Y = headT Y := if_pos h
theorem tkY_up {q now : ByteArray} {Y : List ByteArray} (h : begB q sGt = false) (h2 : q = bUpgrade) : tkY q now Y = maxB (lastT Y) now := by unfold tkY; rw [if_neg (by rw [h]; simp), if_pos h2]
theorem tkY_last {q now : ByteArray} {Y : List ByteArray} (h : begB q sGt = false) (h2 : ¬ q = bUpgrade) : tkY q now Y = lastT Y := by unfold tkY; rw [if_neg (by rw [h]; simp), if_neg h2]
set_option maxRecDepth 100000 in
set_option maxHeartbeats 4000000 in
theorem pick_go (Q : List Raw) (L : List Ent) (t q now : ByteArray) (v : Value) (A : Nat → Addr) (m : Int) (w : World) (hL : L.length ≤ 200) (sh : ∀ e, e ∈ L → ShE e) (hz : shortQ Q) (hq : q.size ≤ 100) (hnow : now.size ≤ 100) (S : Te w A m) (htab : Lib.TabIs Tryz.prog w powName .u64 Lib.pow10Tab) (I : Ixs w v Q L) (hk : look Q L q) :
    Calls Tryz.prog 13 #[v, .string t, .string q, .string now] w fun e w' => ∃ Y, Kept (verL (bestR (ofP t (fitR q now Q)))) (verL (bestR (ofP t (fitR q now Q)))).length Y ∧
      ((Y = [] ∧ e = .returned (.tuple #[.string ⟨#[]⟩, errA A 5])) ∨ (0 < Y.length ∧ e = .returned (.tuple #[.string (tkY q now Y), .nilIface]))) ∧ Below w.heap.size w w' := by
  obtain ⟨hqe, hce, hqn⟩ := hk
  have HC := hid (check_c q A m w hq S)
  rw [chk_ok hqe] at HC
  have HI := hid (fun W (hb : Below w.heap.size w W) => icheck_any Q L v A m W (by omega) sh (S.below hb) (I.below hb))
  have HNZ := hid hce
  have HGD := hid (good_of I hce)
  have HEN := hid (fun W (hb : Below w.heap.size w W) => I.es.below hb)
  have HSZ := hid hz
  have hqL : Q.length ≤ 200 := by rw [I.ln]; exact hL
  have k1 : (q.toList == [110, 111, 110, 101]) = false := by rw [show ([110, 111, 110, 101] : List UInt8) = bNone.data.toList from rfl, ← eqW]; exact decide_eq_false hqn
  have HFT := hid (fun W (hb : Below w.heap.size w W) => qfits_any q now A m W hq hnow hqn (S.below hb) (tab_below htab hb))
  have HWH := hid (fun K cb W (hb : Below w.heap.size w W) eg hK => qwhere_any K cb (fun r => okQ q now r.1.2) Q v W eg (by omega) (I.es.below hb) hK)
  have HBE := hid (fun u W (hb : Below w.heap.size w W) (he : EsAt W u (fitR q now Q)) => ibest_any (fitR q now Q) t u (A 0) (A 1) m W (Nat.le_trans (List.length_filter_le _ _) (by omega)) (fun r hr => hz r (List.mem_filter.1 hr).1) (S.below hb).vs (tab_below htab hb) he)
  have HMX := hid (fun x W (hb : Below w.heap.size w W) (hx : x.size < 999999) => max_any x now (A 0) (A 1) m W hx (by omega) (S.below hb).vs)
  have HHP := hid (fun W => Tryz.strings_HasPrefix q ⟨#[62]⟩ W)
  have HS := hid (fun W (hb : Below w.heap.size w W) => S.below hb)
  have HBG := hid (show begB q sGt = Lib.hasPrefix q.data.toList ([62] : List UInt8) from rfl)
  have HYS := hid (fun Y (hY : Kept (verL (bestR (ofP t (fitR q now Q)))) (verL (bestR (ofP t (fitR q now Q)))).length Y) y (hy : y ∈ Y) => show y.size < 999999 by
    obtain ⟨r, hr, rfl⟩ := kept_has (HGD.out.filter (fun r => okQ q now r.1.2)) (R := bestR (ofP t (fitR q now Q))) (fun r hr => ofP_sub r (bestR_sub hr)) hY hy
    have := (hz r (List.mem_filter.1 (ofP_sub r (bestR_sub hr))).1).2
    omega)
  obtain ⟨a, c, rfl, -⟩ := id I.es
  clear S I hce hqe htab hz sh
  go_enter Tryz.func13, Tryz.ntmps13
  go_wp2_with fail
  refine HC.out.mono ?_
  rintro e w1 ⟨rfl, hb⟩
  have HB := hid hb
  clear hb
  go_wp2_with fail
  refine (HI.out _ HB.out).mono ?_
  rintro e w2 ⟨x, rfl, hx, hb⟩
  have HB2 := hid (HB.out.trans (hb.mono HB.out.size))
  have hx0 : x = .nilIface := by
    rcases hx.kind with ⟨-, h⟩ | ⟨h0, -⟩
    · exact h
    · exact absurd HNZ.out h0
  subst hx0
  clear hx hb HB HC HI HNZ
  go_wp2_with fail
  refine (HFT.out _ HB2.out).mono ?_
  rintro e w3 ⟨f, rfl, ⟨K, cb, rfl, eg, hK⟩, hb⟩
  have HB3 := hid (HB2.out.trans (hb.mono HB2.out.size))
  have HW3 := hid (HWH.out K cb w3 HB3.out eg (fun i hi W hW => hK W Q[i].1.2 hW (by have := (HSZ.out Q[i] (List.getElem_mem hi)).2; omega) (HGD.out.ver Q[i] (List.getElem_mem hi))))
  clear hb eg hK HFT HWH HB2 HEN
  go_wp2_with fail
  refine HW3.out.mono ?_
  rintro e w4 ⟨u, rfl, hu, hb⟩
  have HB4 := hid (HB3.out.trans (hb.mono HB3.out.size))
  have HB5 := hid (HBE.out u w4 HB4.out hu)
  obtain ⟨ua, uc, rfl, -⟩ := hu
  clear hb HW3 HBE HB3
  generalize (Q.filter fun r => okQ q now r.1.2).length = un at *
  go_wp2_with fail
  refine HB5.out.mono ?_
  rintro e w5 ⟨y, rfl, Y, ho, hY, hb⟩
  have HB6 := hid (HB4.out.trans (hb.mono HB4.out.size))
  have HKY := hid hY
  have HYZ := hid (HYS.out Y hY)
  obtain ⟨ya, yc, hyv, _, hcell⟩ := own_tx ho
  subst hyv
  have HCC := hid hcell
  have hmx := own_max ho
  clear ho hb hY hcell HYS HB5
  by_cases hX : 0 < Y.length
  · obtain ⟨b, o, rfl, hcc⟩ := HCC.out (by intro h; rw [h] at hX; simp at hX)
    have hne : ((Y.length : Int) == 0) = false := by rw [beq_eq_false_iff_ne]; omega
    have hpos : (0 : Int) < (Y.length : Int) := by omega
    have HPOS := hid hX
    cases hg : begB q sGt
    · rw [← HBG.out, hg] at HHP
      have hlast := hcc (Y.length - 1) (by omega)
      have HLT := hid (lastT_get hX)
      have HLZ := hid (HYZ.out _ (List.getElem_mem (show Y.length - 1 < Y.length by omega)))
      rw [← HLT.out] at hlast HLZ
      have hx1 : (Y.length : Int) - 1 = ((Y.length - 1 : Nat) : Int) := by omega
      have hx2 : ((Y.length - 1 : Nat) : Int) < (Y.length : Int) := by omega
      have hw64 : wrap64 ((Y.length - 1 : Nat) : Int) = ((Y.length - 1 : Nat) : Int) := IntWalk.wrap64_in _ (by unfold maxLen at hmx; omega)
      have htn : ((Y.length - 1 : Nat) : Int).toNat = Y.length - 1 := Int.toNat_natCast _
      by_cases hu : q = bUpgrade
      · have k2 : (q.toList == [117, 112, 103, 114, 97, 100, 101]) = true := by rw [hu, ByteArray.toList_eq]; rfl
        have HTK := hid (tkY_up (now := now) (Y := Y) hg hu)
        clear hcc HLT hX hu hg
        generalize lastT Y = ly at *
        go_wp2_with fail
        refine (HHP.out _).mono ?_
        rintro e w6 ⟨rfl, rfl⟩
        go_wp2_with fail
        refine (HMX.out ly _ HB6.out HLZ.out).mono ?_
        rintro e w7 ⟨rfl, hb⟩
        have HB7 := hid (HB6.out.trans (hb.mono HB6.out.size))
        clear hb
        go_wp2_with fail
        go_ret2
        exact ⟨Y, HKY.out, Or.inr ⟨HPOS.out, by rw [HTK.out]; rfl⟩, HB7.out⟩
      · have k2 : (q.toList == [117, 112, 103, 114, 97, 100, 101]) = false := by rw [show ([117, 112, 103, 114, 97, 100, 101] : List UInt8) = bUpgrade.data.toList from rfl, ← eqW]; exact decide_eq_false hu
        have HTK := hid (tkY_last (now := now) (Y := Y) hg hu)
        clear hcc HLT hX hu hg
        generalize lastT Y = ly at *
        go_wp2_with fail
        refine (HHP.out _).mono ?_
        rintro e w6 ⟨rfl, rfl⟩
        go_wp2_with fail
        go_ret2
        exact ⟨Y, HKY.out, Or.inr ⟨HPOS.out, by rw [HTK.out]; rfl⟩, HB6.out⟩
    · rw [← HBG.out, hg] at HHP
      have hfirst := hcc 0 hX
      rw [Nat.add_zero] at hfirst
      have HLT := hid (headT_get hX)
      rw [← HLT.out] at hfirst
      have HTK := hid (tkY_head (now := now) (Y := Y) hg)
      clear hcc HLT hX hg
      generalize headT Y = hy at *
      go_wp2_with fail
      refine (HHP.out _).mono ?_
      rintro e w6 ⟨rfl, rfl⟩
      go_wp2_with fail
      go_ret2
      exact ⟨Y, HKY.out, Or.inr ⟨HPOS.out, by rw [HTK.out]; rfl⟩, HB6.out⟩
  · have hx0 : Y = [] := List.eq_nil_of_length_eq_zero (by omega)
    subst hx0
    have g4 := (HS.out _ HB6.out).sen.g4
    clear hX hmx HCC HYZ
    go_wp2_with fail
    go_region
    all_goals (try go_wp2)
    all_goals
      refine bodyPost_ret (v := .tuple #[.string ⟨#[]⟩, .iface 254 (.pointer (some (A 4)))]) (by simp [results, Tryz.results13, go_sem]) rfl ?_
      exact ⟨[], HKY.out, Or.inl ⟨rfl, rfl⟩, HB6.out.drew⟩
/-- The table of powers, in memory. -/
def TabT (w : World) : Prop := Lib.TabIs Tryz.prog w powName .u64 Lib.pow10Tab
theorem keep_tab : KeepT TabT := fun _ _ h hb => tab_below h hb
theorem up_noleast : leastQ bUpgrade = false := rfl
/-- query.Pick: what is asked of it. -/
theorem pick_c : PickC TabT := fun Q L t q now v A m w hL sh hz ht hq hnow S hT I => by
  obtain ⟨a, c, hv, -⟩ := id I.es
  by_cases hqe : qErr q ≠ 0
  · subst hv
    refine (pick_q t q now a _ c A m w hq S hqe).mono fun e w' ⟨h1, h2⟩ => ⟨[], errA A (qErr q), fun h => absurd h.1 hqe, ?_, ?_, h2⟩
    · rw [pkV_q hqe]; exact h1
    · rw [pkF_q hqe]; rfl
  have hq0 : qErr q = 0 := by omega
  by_cases hce : (chk Q L).1 ≠ 0
  · refine (pick_idx Q L t q now v A m w hL sh hq S I hq0 hce).mono fun e w' ⟨x, h1, h2, h3⟩ => ⟨[], x, fun h => absurd h.2.1 hce, ?_, ?_, h3⟩
    · rw [pkV_c hqe hce]; exact h1
    · rw [pkF_c hqe hce]; exact h2
  have hc0 : (chk Q L).1 = 0 := by omega
  by_cases hn : q = bNone
  · subst hn
    refine (pick_no Q L t now v A m w hL sh S I hc0).mono fun e w' ⟨h1, h2⟩ => ⟨[], .nilIface, fun h => absurd rfl h.2.2, ?_, ?_, h2⟩
    · rw [pkV_n hqe hce rfl]; exact h1
    · rw [pkF_n hqe hce rfl]; rfl
  have g := good_of I hc0
  obtain ⟨X, hK⟩ := kept_ex (L := verL (ofP t Q)) (verL_ok g ofP_sub)
  refine (pick_go Q L t q now v A m w hL sh hz hq hnow S hT I ⟨hq0, hc0, hn⟩).mono ?_
  rintro e w' ⟨Y, hY, h1, h2⟩
  rcases h1 with ⟨hY0, rfl⟩ | ⟨hYp, rfl⟩
  · subst hY0
    have hb := pkB_none (q := q) (now := now) g hK hY
    refine ⟨X, errA A 5, fun _ => hK, ?_, ?_, h2⟩
    · rw [pkV_m hqe hce hn, if_pos hb]; rfl
    · rw [pkF_m hqe hce hn, if_pos hb]; rfl
  · have hb := pkB_some (q := q) (now := now) g hK hY hYp
    refine ⟨X, .nilIface, fun _ => hK, ?_, ?_, h2⟩
    · rw [pkV_m hqe hce hn, if_neg hb]
      have e1 := pkB_is (q := q) (now := now) g hK hY
      unfold tkY
      rw [least_beg]
      by_cases hu : q = bUpgrade
      · rw [if_pos hu, if_pos hu, e1, hu, up_noleast]; rfl
      · rw [if_neg hu, if_neg hu, e1]
    · rw [pkF_m hqe hce hn, if_neg hb]; rfl
end Ve
end Go.Proofs.YtmbphngmaglgmaaGreatDoor

/-
  What the document's answer says of modules: ModError, ModText, IsAhead, ReadMod (a module's text).
-/
namespace Go.Proofs.YtmbphngmaglgmaaGreatDoor
open Go.RowKit
namespace Ve

theorem n0_pos {l : List UInt8} (h : verErr l = 0) : 0 ≤ nAt l 0 ∧ nAt l 0 ≤ 999999 := by
  unfold verErr at h
  by_cases hc : marked l = false ∨ (coreOf l).length ≠ 3
  · rw [if_pos hc] at h; omega
  rw [if_neg hc] at h
  have h3 : (coreOf l).length = 3 := by
    rcases Nat.decEq (coreOf l).length 3 with h | h
    · exact absurd (Or.inr h) hc
    · exact h
  have hn : numsErr (coreOf l) = 0 := by
    cases e : hasPre l
    · rw [e] at h; exact h
    · rw [e] at h
      have h' : worse (numsErr (coreOf l)) (pre (preOf l)) = 0 := h
      unfold worse at h'
      by_cases q : numsErr (coreOf l) = 1 ∨ pre (preOf l) = 0
      · rw [if_pos q] at h'; exact h'
      · rw [if_neg q] at h'; exact absurd (Or.inr h') q
  obtain ⟨p0, p1, p2, hco⟩ : ∃ p0 p1 p2, coreOf l = [p0, p1, p2] := by
    match e : coreOf l, h3 with
    | [a, b, c], _ => exact ⟨a, b, c, rfl⟩
  have hz := ncode0 hn
  rw [hco] at hz
  have n0 : nAt l 0 = (num p0).1 := by simp [nAt, numsOf, hco]
  obtain ⟨_, l0, u0⟩ := itoa_num p0 (hz p0 (by simp))
  rw [n0]; exact ⟨l0, u0⟩
theorem pathN_is {l : List UInt8} (h : pathErr l = 0) : pathN l = 0 ∨ 2 ≤ pathN l := by
  unfold pathN
  cases hu : sufE l
  · left; rfl
  · right; exact suf_pos (suf_fits h hu)

set_option maxRecDepth 100000 in
set_option maxHeartbeats 4000000 in
theorem modError_any (p v : ByteArray) (w : World) (hp : p.size < 4294967281) (hv : v.size < 4294967281) :
    Calls Tryz.prog 136 #[.agg #[.string p, .string v]] w fun e w' => e = .returned (.int .i64 (modErr p.data.toList v.data.toList : Nat)) ∧ Below w.heap.size w w' := by
  have HB0 := hid ((Below.refl w.heap.size w).alloc (Nat.le_refl _) (.cells #[.string p, .string v] 53))
  have HP := hid (pathError_any p (w.alloc (.cells #[.string p, .string v] 53)) hp)
  have HM := hid (show modErr p.data.toList v.data.toList = if pathErr p.data.toList = 0 then (if verErr v.data.toList = 0 then (if fitsB (nAt v.data.toList 0) (pathN p.data.toList) then 0 else 4) else verErr v.data.toList) else pathErr p.data.toList from rfl)
  by_cases h0 : pathErr p.data.toList = 0
  · rw [if_pos h0] at HM
    have HV := hid (fun W => verOf_any v W hv)
    by_cases h1 : verErr v.data.toList = 0
    · rw [if_pos h1] at HM
      have HSP := hid (fun W => splitPath_any p W hp)
      have e2 : splitN p.data.toList = pathN p.data.toList := by unfold splitN; rw [if_pos h0]
      rw [e2] at HSP
      have HPN := hid (pathN_is h0)
      have HN0 := hid (n0_pos h1)
      have HF := hid (show fitsB (nAt v.data.toList 0) (pathN p.data.toList) = (if pathN p.data.toList == 0 then (nAt v.data.toList 0 == 0 || nAt v.data.toList 0 == 1) else nAt v.data.toList 0 == pathN p.data.toList) from rfl)
      have H1 := hid h1
      rw [h0] at HP
      clear h0 h1 e2
      go_enter Tryz.func136, Tryz.ntmps136
      go_wp2_with fail
      refine HP.out.mono ?_
      rintro e w1 ⟨rfl, hb1⟩
      have HB1 := hid (HB0.out.trans (hb1.mono HB0.out.size))
      obtain ⟨⟨r0, r1⟩, rz⟩ := res2 (hb1.mono (by simp))
      clear hb1
      go_wp2_with fail
      refine (HV.out _).mono ?_
      rintro e w2 ⟨hv2, hb2⟩
      obtain ⟨sa, cap, X2, rfl⟩ : ∃ sa cap X2, e = .returned (.tuple #[.agg #[.int .i64 (nAt v.data.toList 0), .int .i64 (nAt v.data.toList 1), .int .i64 (nAt v.data.toList 2), .slice sa X2 cap], .int .i64 0]) := by
        rcases hv2 with ⟨h, _⟩ | ⟨_, sa, cap, X2, e1, _⟩
        · exact absurd H1.out h
        · exact ⟨sa, cap, _, e1⟩
      have HB2 := hid (HB1.out.trans (hb2.mono HB1.out.size))
      have HC0 := hid (cell_below hb2 r0)
      have HBV := hid ((Below.refl w2.heap.size w2).alloc (Nat.le_refl _) (.cells #[.int .i64 (nAt v.data.toList 0), .int .i64 (nAt v.data.toList 1), .int .i64 (nAt v.data.toList 2), .slice sa X2 cap] 46))
      have c0 := cell_below HBV.out HC0.out
      have HB3 := hid (HB2.out.trans (HBV.out.mono HB2.out.size))
      generalize nAt v.data.toList 1 = b1 at *
      generalize nAt v.data.toList 2 = b2 at *
      generalize hn0 : nAt v.data.toList 0 = b0 at *
      clear hv2 hb2 hn0 r0 r1 rz
      go_wp2_with fail
      refine (HSP.out _).mono ?_
      rintro e w4 ⟨H, rfl, _, hb4⟩
      have HB4 := hid (HB3.out.trans (hb4.mono HB3.out.size))
      obtain ⟨⟨q0, q1, q2, q3⟩, _, qz⟩ := res4 (hb4.mono (by simp))
      generalize pathN p.data.toList = n at *
      clear hb4 c0
      have hb0 := HN0.out.1
      have hb9 := HN0.out.2
      by_cases hz : n = 0
      · subst hz
        by_cases hg : 1 < b0
        · have HR := hid (show (if fitsB b0 0 then 0 else 4) = 4 by
            have : fitsB b0 0 = false := by
              rw [HF.out]
              simp; omega
            rw [this]; rfl)
          rw [HR.out] at HM
          go_wp2_with fail
          go_ret
          exact ⟨by rw [HM.out]; rfl, HB4.out⟩
        · have HR := hid (show (if fitsB b0 0 then 0 else 4) = 0 by
            have : fitsB b0 0 = true := by
              rw [HF.out]
              simp; omega
            rw [this]; rfl)
          rw [HR.out] at HM
          go_wp2_with fail
          go_ret
          exact ⟨by rw [HM.out]; rfl, HB4.out⟩
      · have hpos : 0 < n := by have := HPN.out; omega
        have hnz : (n == 0) = false := beq_eq_false_iff_ne.2 hz
        by_cases hg : b0 = n
        · subst hg
          have HR := hid (show (if fitsB b0 b0 then 0 else 4) = 0 by
            have : fitsB b0 b0 = true := by
              rw [HF.out, hnz]; simp
            rw [this]; rfl)
          rw [HR.out] at HM
          have hbb : (b0 == b0) = true := by simp
          have hbn : (b0 != b0) = false := by simp
          go_wp2_with fail
          go_ret
          exact ⟨by rw [HM.out]; rfl, HB4.out⟩
        · have hbb : (b0 == n) = false := beq_eq_false_iff_ne.2 hg
          have hbn : (b0 != n) = true := by rw [bne, hbb]; rfl
          have HR := hid (show (if fitsB b0 n then 0 else 4) = 4 by
            have : fitsB b0 n = false := by
              rw [HF.out, hnz]; simpa using hg
            rw [this]; rfl)
          rw [HR.out] at HM
          go_wp2_with fail
          go_ret
          exact ⟨by rw [HM.out]; rfl, HB4.out⟩
    · rw [if_neg h1] at HM
      have H1 := hid h1
      have hpos : (0 : Int) < (verErr v.data.toList : Int) := by omega
      rw [h0] at HP
      rw [HM.out]
      clear h0 h1
      go_enter Tryz.func136, Tryz.ntmps136
      go_wp2_with fail
      refine HP.out.mono ?_
      rintro e w1 ⟨rfl, hb1⟩
      have HB1 := hid (HB0.out.trans (hb1.mono HB0.out.size))
      obtain ⟨⟨r0, r1⟩, rz⟩ := res2 (hb1.mono (by simp))
      clear hb1
      go_wp2_with fail
      refine (HV.out _).mono ?_
      rintro e w2 ⟨hv2, hb2⟩
      obtain rfl : e = .returned (.tuple #[.agg #[.int .i64 0, .int .i64 0, .int .i64 0, .slice none 0 0], .int .i64 (verErr v.data.toList : Nat)]) := by
        rcases hv2 with ⟨_, h⟩ | ⟨h, _⟩
        · exact h
        · exact absurd h H1.out
      have HB2 := hid (HB1.out.trans (hb2.mono HB1.out.size))
      have HBV := hid ((Below.refl w2.heap.size w2).alloc (Nat.le_refl _) (.cells #[.int .i64 0, .int .i64 0, .int .i64 0, .slice none 0 0] 46))
      have HB3 := hid (HB2.out.trans (HBV.out.mono HB2.out.size))
      clear hv2 hb2 r0 r1 rz
      generalize hce : (verErr v.data.toList : Int) = c at *
      have HCE := hid hce
      clear hce
      go_wp2_with fail
      go_ret
      exact ⟨by rw [HCE.out]; rfl, HB3.out⟩
  · rw [if_neg h0] at HM
    have hpos : (0 : Int) < (pathErr p.data.toList : Int) := by omega
    rw [HM.out]
    generalize (pathErr p.data.toList : Int) = c at *
    clear h0 HM
    go_enter Tryz.func136, Tryz.ntmps136
    go_wp2_with fail
    refine HP.out.mono ?_
    rintro e w1 ⟨rfl, hb1⟩
    have HB1 := hid (HB0.out.trans (hb1.mono HB0.out.size))
    clear hb1
    go_wp2_with fail
    go_ret
    exact ⟨rfl, HB1.out⟩

set_option maxHeartbeats 1000000 in
theorem isAhead_any (p v q u : ByteArray) (w : World) (hv : v.size < 999999) (hu : u.size < 999999) :
    Calls Tryz.prog 137 #[.agg #[.string p, .string v], .agg #[.string q, .string u]] w fun e w' => e = .returned (.bool (aheadB p.data.toList v.data.toList q.data.toList u.data.toList)) ∧ Below w.heap.size w w' := by
  have HO := hid (show aheadB p.data.toList v.data.toList q.data.toList u.data.toList = if p.data.toList = q.data.toList then lessB v.data.toList u.data.toList else decide (Lib.compareBytes p.data.toList q.data.toList < 0) from rfl)
  have HB0 := hid (((Below.refl w.heap.size w).alloc (Nat.le_refl _) (.cells #[.string p, .string v] 53)).alloc (by simp) (.cells #[.string q, .string u] 53))
  by_cases h : p = q
  · subst h
    rw [if_pos rfl] at HO
    have he := str_refl p
    have HL := hid (fun W => isLess_any v u W hv hu)
    go_enter Tryz.func137, Tryz.ntmps137
    go_wp2_with fail
    refine (HL.out _).mono ?_
    rintro e w1 ⟨rfl, hb⟩
    have HB := hid (HB0.out.trans (hb.mono HB0.out.size))
    clear hb
    go_wp2_with fail
    go_ret
    exact ⟨ret_bool HO.out.symm, HB.out⟩
  · rw [if_neg (fun e => h (str_ext e))] at HO
    have he := str_ne h
    have HC := hid (show Op.bytesLess p.toList q.toList = decide (Lib.compareBytes p.data.toList q.data.toList < 0) by rw [cb_less, ByteArray.toList_eq, ByteArray.toList_eq])
    clear h
    go_enter Tryz.func137, Tryz.ntmps137
    go_wp2_with fail
    go_ret
    exact ⟨ret_bool (by rw [HO.out, ← HC.out]), HB0.out⟩

theorem two_of {X : List ByteArray} {a b : List UInt8} (h : bl X = [a, b]) : ∃ x y : ByteArray, X = [x, y] ∧ x.data.toList = a ∧ y.data.toList = b := by
  match X, h with
  | [x, y], h =>
    simp only [bl, List.map_cons, List.map_nil, List.cons.injEq, and_true] at h
    exact ⟨x, y, rfl, h.1, h.2⟩

end Ve
end Go.Proofs.YtmbphngmaglgmaaGreatDoor

/-
  What the document's answer says of requirements (reqsError): the first one that is wrong, and its place; nothing old in memory turns.
-/
namespace Go.Proofs.YtmbphngmaglgmaaGreatDoor
open Go.RowKit
namespace Ve

def reqsR (own : ByteArray) (L : List Bm) : Nat × Nat := match fstE (reqE own L) L.length with
  | some i => (reqE own L i, i)
  | none => (0, 0)
theorem reqsR_some {own : ByteArray} {L : List Bm} {k : Nat} (h0 : ∀ j, j < k → reqE own L j = 0) (hk : k < L.length) (h : reqE own L k ≠ 0) : reqsR own L = (reqE own L k, k) := by
  unfold reqsR; rw [fstE_some h0 h hk]
theorem reqsR_none {own : ByteArray} {L : List Bm} (h : ∀ j, j < L.length → reqE own L j = 0) : reqsR own L = (0, 0) := by
  unfold reqsR; rw [fstE_none h]
theorem zero_next {E : Nat → Nat} {k : Nat} (h : ∀ j, j < k → E j = 0) (hk : E k = 0) : ∀ j, j < k + 1 → E j = 0 := fun j hj => by
  rcases Nat.lt_or_ge j k with h1 | h1
  · exact h j h1
  · have : j = k := by omega
    subst this; exact hk
theorem leq_no (a b : ByteArray) : (Op.bytesLess a.toList b.toList || a.toList == b.toList) = noLess b a := by
  have h := cb_more a.toList b.toList
  rw [ByteArray.toList_eq, ByteArray.toList_eq] at h ⊢
  unfold noLess
  rw [cb_swap a.data.toList b.data.toList]
  cases hx : (Op.bytesLess a.data.toList b.data.toList || a.data.toList == b.data.toList) <;> rw [hx] at h <;> simp at h ⊢ <;> omega
theorem leq_is (a b : ByteArray) (X : World) : (binOp BinOp.leq 9 (.string a) (.string b)).run Tryz.prog X = .ok (.bool (noLess b a)) X := by rw [← leq_no]; rfl

set_option maxHeartbeats 4000000 in
set_option maxRecDepth 100000 in
theorem reqsE_some (own : ByteArray) (L : List Bm) (b o c : Nat) (w : World) (hn : L.length ≤ 1000000) (hs : shortL L)
    (hc : ∀ j (h : j < L.length), w.cell? ⟨b, o + j * 2, none⟩ = some (.string L[j].1) ∧ w.cell? ⟨b, o + j * 2 + 1, none⟩ = some (.string L[j].2)) :
    Calls Tryz.prog 138 #[.slice (some ⟨b, o, none⟩) L.length c, .string own] w fun e w' => e = .returned (.tuple #[.int .i64 ((reqsR own L).1 : Nat), .int .i64 ((reqsR own L).2 : Nat)]) ∧ Below w.heap.size w w' := by
  have HC := hid hc
  have HS := hid hs
  generalize hr : reqsR own L = r
  have HR := hid hr
  clear hc hs hr
  go_enter Tryz.func138, Tryz.ntmps138
  go_wp2_with fail
  go_loopw [6] (fun i wr => ∃ k : Nat, k ≤ L.length ∧ i = .int .i64 k ∧ Hid (∀ j, j < k → reqE own L j = 0) ∧ Hid (Below w.heap.size w wr)) (fun i _ => L.length - (intOf i).toNat)
  case atStart => exact ⟨0, Nat.zero_le _, rfl, hid (fun j hj => absurd hj (by omega)), hid (Below.refl _ _)⟩
  case round =>
    obtain ⟨k, hk, rfl, HZ, HB⟩ := hrel
    by_cases hlt : k < L.length
    · have hx := cell_below HB.out (HC.out k hlt).1
      have hy := cell_below HB.out (HC.out k hlt).2
      have hkI : (k : Int) < (L.length : Int) := by omega
      have HM := hid (modError_any L[k].1 L[k].2 wr (by have := (HS.out L[k] (List.getElem_mem hlt)).1; omega) (by have := (HS.out L[k] (List.getElem_mem hlt)).2; omega))
      rw [show modErr L[k].1.data.toList L[k].2.data.toList = mErr L[k] from rfl] at HM
      have HN := hid (fun h => reqsR_some HZ.out hlt h)
      have HY := hid (fun h => zero_next HZ.out h)
      have HLT := hid hlt
      rcases Nat.eq_zero_or_pos k with h00 | h00
      · have HE := hid (show reqE own L k = reqW own none L[k] by subst h00; exact reqE_0 hlt)
        have g3 : decide (0 < k) = false := decide_eq_false (by omega)
        generalize L[k] = x at *
        obtain ⟨p, v⟩ := x
        clear hlt h00
        by_cases h0 : mErr (p, v) = 0
        · rw [h0] at HM
          by_cases h1 : p = own
          · have HV := hid (HN.out (by rw [HE.out, reqW_own h0 h1]; decide))
            rw [HE.out, reqW_own h0 h1] at HV
            rw [h1] at hx HM
            have hq := str_refl own
            clear h0 h1
            go_wp2_with fail
            refine HM.out.mono ?_
            rintro e w1 ⟨rfl, hb⟩
            have HB1 := hid (HB.out.trans (hb.mono HB.out.size))
            replace hx := cell_below hb hx
            replace hy := cell_below hb hy
            clear hb
            go_wp2_with fail
            go_ret2
            exact ⟨by rw [← HR.out, HV.out]; rfl, HB1.out⟩
          · have HV := hid (HY.out (by rw [HE.out, reqW_none h0 h1]))
            have hq := str_ne h1
            clear h0 h1
            go_wp2_with fail
            refine HM.out.mono ?_
            rintro e w1 ⟨rfl, hb⟩
            have HB1 := hid (HB.out.trans (hb.mono HB.out.size))
            replace hx := cell_below hb hx
            replace hy := cell_below hb hy
            clear hb
            go_wp2_with fail
            go_quiet (fail)
            go_wp2_with fail
            go_roundw
            case rel => exact ⟨k + 1, by have := HLT.out; omega, by go_num, HV, hid (below_drawn_of HB1.out _)⟩
            case measure => have := HLT.out; simp [intOf]; omega
        · have HV := hid (HN.out (by rw [HE.out, reqW_bad h0]; exact h0))
          rw [HE.out, reqW_bad h0] at HV
          have hpos : (0 : Int) < (mErr (p, v) : Int) := by omega
          generalize mErr (p, v) = z at *
          clear h0
          go_wp2_with fail
          refine HM.out.mono ?_
          rintro e w1 ⟨rfl, hb⟩
          have HB1 := hid (HB.out.trans (hb.mono HB.out.size))
          clear hb
          go_wp2_with fail
          go_ret2
          exact ⟨by rw [← HR.out, HV.out]; rfl, HB1.out⟩
      · obtain ⟨q, hq⟩ : ∃ q, k = q + 1 := ⟨k - 1, by omega⟩
        have hql : q < L.length := by omega
        have HE := hid (show reqE own L k = reqW own (some L[q]) L[k] by subst hq; exact reqE_1 hlt)
        have hxq := cell_below HB.out (HC.out q hql).1
        have gw : IntKind.i64.wrap ((k : Int) - 1) = (q : Int) := by rw [IntKind.wrap_i64]; omega
        have gw2 : (k : Int) - 1 = (q : Int) := by omega
        have g1 : (0 : Int) ≤ (q : Int) := by omega
        have g2 : (q : Int) < (L.length : Int) := by omega
        have g3 : (0 : Int) < (k : Int) := by omega
        have g4 : decide (0 < k) = true := decide_eq_true (by omega)
        generalize L[k] = x at *
        generalize L[q] = y at *
        obtain ⟨p, v⟩ := x
        obtain ⟨p', v'⟩ := y
        clear hlt hql hq h00
        by_cases h0 : mErr (p, v) = 0
        · rw [h0] at HM
          by_cases h1 : p = own
          · have HV := hid (HN.out (by rw [HE.out, reqW_own h0 h1]; decide))
            rw [HE.out, reqW_own h0 h1] at HV
            rw [h1] at hx HM
            have hq := str_refl own
            clear h0 h1
            go_wp2_with fail
            refine HM.out.mono ?_
            rintro e w1 ⟨rfl, hb⟩
            have HB1 := hid (HB.out.trans (hb.mono HB.out.size))
            replace hx := cell_below hb hx
            replace hy := cell_below hb hy
            clear hb
            go_wp2_with fail
            go_ret2
            exact ⟨by rw [← HR.out, HV.out]; rfl, HB1.out⟩
          · have hle := leq_is p p'
            have hq := str_ne h1
            cases hz : noLess p' p
            · have HV := hid (HY.out (by rw [HE.out, reqW_some h0 h1, if_neg (by rw [hz]; decide)]))
              rw [hz] at hle
              clear h0 h1 hz
              go_wp2_with fail
              refine HM.out.mono ?_
              rintro e w1 ⟨rfl, hb⟩
              have HB1 := hid (HB.out.trans (hb.mono HB.out.size))
              replace hx := cell_below hb hx
              replace hy := cell_below hb hy
              replace hxq := cell_below hb hxq
              clear hb
              go_wp2_with fail
              go_quiet (fail)
              go_wp2_with fail
              go_roundw
              case rel => exact ⟨k + 1, by have := HLT.out; omega, by go_num, HV, hid (below_drawn_of HB1.out _)⟩
              case measure => have := HLT.out; simp [intOf]; omega
            · have HV := hid (HN.out (by rw [HE.out, reqW_some h0 h1, if_pos hz]; decide))
              rw [HE.out, reqW_some h0 h1, if_pos hz] at HV
              rw [hz] at hle
              clear h0 h1 hz
              go_wp2_with fail
              refine HM.out.mono ?_
              rintro e w1 ⟨rfl, hb⟩
              have HB1 := hid (HB.out.trans (hb.mono HB.out.size))
              replace hx := cell_below hb hx
              replace hy := cell_below hb hy
              replace hxq := cell_below hb hxq
              clear hb
              go_wp2_with fail
              go_quiet (fail)
              go_wp2_with fail
              go_ret2
              exact ⟨by rw [← HR.out, HV.out]; rfl, below_drawn_of HB1.out _⟩
        · have HV := hid (HN.out (by rw [HE.out, reqW_bad h0]; exact h0))
          rw [HE.out, reqW_bad h0] at HV
          have hpos : (0 : Int) < (mErr (p, v) : Int) := by omega
          generalize mErr (p, v) = z at *
          clear h0
          go_wp2_with fail
          refine HM.out.mono ?_
          rintro e w1 ⟨rfl, hb⟩
          have HB1 := hid (HB.out.trans (hb.mono HB.out.size))
          clear hb
          go_wp2_with fail
          go_ret2
          exact ⟨by rw [← HR.out, HV.out]; rfl, HB1.out⟩
    · have HV := hid (reqsR_none (own := own) (L := L) (fun j hj => HZ.out j (by omega)))
      go_wp2_with fail
      go_ret2
      exact ⟨by rw [← HR.out, HV.out]; rfl, HB.out⟩
theorem reqsE_none (own : ByteArray) (a : Option Addr) (c : Nat) (w : World) : Calls Tryz.prog 138 #[.slice a 0 c, .string own] w fun e w' => e = .returned (.tuple #[.int .i64 0, .int .i64 0]) ∧ Below w.heap.size w w' := by
  go_enter Tryz.func138, Tryz.ntmps138
  go_wp2_with fail
  go_loopw [6] (fun i wr => i = .int .i64 0 ∧ wr = w) (fun i _ => 0)
  case atStart => exact ⟨rfl, rfl⟩
  case round =>
    obtain ⟨rfl, rfl⟩ := hrel
    go_wp2_with fail
    go_ret2
    exact ⟨rfl, Below.refl _ _⟩
theorem reqsE_any (own : ByteArray) (L : List Bm) (v : Value) (w : World) (hn : L.length ≤ 1000000) (hs : shortL L) (hv : MsAt w v L) :
    Calls Tryz.prog 138 #[v, .string own] w fun e w' => e = .returned (.tuple #[.int .i64 ((reqsR own L).1 : Nat), .int .i64 ((reqsR own L).2 : Nat)]) ∧ Below w.heap.size w w' := by
  obtain ⟨a, c, rfl, _, h⟩ := hv
  cases L with
  | nil => exact reqsE_none own a c w
  | cons x r =>
    obtain ⟨b, o, rfl, h2⟩ := h (by simp)
    exact reqsE_some own (x :: r) b o c w hn hs h2
end Ve
end Go.Proofs.YtmbphngmaglgmaaGreatDoor

/-
  Faults as the document's answer has them.
-/
namespace Go.Proofs.YtmbphngmaglgmaaGreatDoor
open Go.RowKit
namespace Ve

/-- A place as a number; nowhere: -1. -/
def atOf : Option Nat → Int
  | none => -1
  | some i => (i : Int)
/-- A fault as the document's answer has it. -/
def faultV (r : Nat × Option Nat) : Value := .agg #[.int .i64 (r.1 : Nat), .int .i64 (atOf r.2)]
theorem fld0 (a b : Int) (W : World) : (Instr.field 40 (.agg #[.int .i64 a, .int .i64 b]) 0).run Tryz.prog W = .ok (.int .i64 a) W := by kernel_rfl
theorem rbare_any (n : Int) (w : World) : Calls Tryz.prog 46 #[.int .i64 n] w fun e w' => e = .returned (.agg #[.int .i64 n, .int .i64 (-1)]) ∧ Below w.heap.size w w' := by
  go_enter Tryz.func46, Tryz.ntmps46
  go_wp2_with fail
  refine bodyPost_ret (v := .agg #[.int .i64 n, .int .i64 (-1)]) (by simp [results, Tryz.results46, go_sem]) rfl ⟨rfl, ?_⟩
  exact (Below.refl w.heap.size w).alloc (Nat.le_refl _) _
theorem fine_any (w : World) : Calls Tryz.prog 48 #[] w fun e w' => e = .returned (.agg #[.int .i64 0, .int .i64 (-1)]) ∧ Below w.heap.size w w' := by
  go_enter Tryz.func48, Tryz.ntmps48
  go_wp2_with fail
  refine bodyPost_ret (v := .agg #[.int .i64 0, .int .i64 (-1)]) (by simp [results, Tryz.results48, go_sem]) rfl ⟨rfl, ?_⟩
  exact (Below.refl w.heap.size w).alloc (Nat.le_refl _) _
end Ve
end Go.Proofs.YtmbphngmaglgmaaGreatDoor

/-
  Texts that rise, plain: a list is as sorted, each once, just where each is less than the next one.
-/
namespace Go.Proofs.YtmbphngmaglgmaaGreatDoor
open Go.RowKit
namespace Ve

theorem cb_lt_iff : ∀ (a b : List UInt8), Lib.compareBytes a b < 0 ↔ a < b
  | [], [] => by simp [Lib.compareBytes]
  | [], b :: bs => by simp [Lib.compareBytes]
  | a :: r, [] => by simp [Lib.compareBytes]
  | a :: r, b :: bs => by
    simp only [Lib.compareBytes]
    rw [List.cons_lt_cons_iff]
    by_cases h1 : a < b
    · rw [if_pos h1]; simp [h1]
    · rw [if_neg h1]
      by_cases h2 : b < a
      · rw [if_pos h2]
        have : ¬ a = b := fun e => by subst e; exact absurd h2 (UInt8.lt_irrefl _)
        simp [h1, this]
      · rw [if_neg h2]
        have : a = b := u8_eq h1 h2
        subst this
        rw [cb_lt_iff r bs]
        simp [h1]
theorem range_get (S : List (List UInt8)) : (List.range S.length).map (fun j => S.toArray[j]!) = S := by
  apply List.ext_getElem
  · simp
  · intro j h1 h2
    simp [h2]
/-- Each less than the next one. -/
def rsT (Z : List (List UInt8)) : Prop := ∀ j (h : j + 1 < Z.length), Lib.compareBytes Z[j] Z[j + 1] < 0
theorem rsT_pair {Z : List (List UInt8)} (h : rsT Z) : Z.Pairwise fun x y => x < y := by
  have go : ∀ (d i : Nat) (hi : i + d + 1 < Z.length), Z[i] < Z[i + d + 1] := fun d => by
    induction d with
    | zero => intro i hi; exact (cb_lt_iff _ _).1 (h i hi)
    | succ d ih =>
      intro i hi
      exact List.lt_trans (ih i (by omega)) ((cb_lt_iff _ _).1 (h (i + d + 1) hi))
  rw [List.pairwise_iff_getElem]
  intro i j hi hj hij
  obtain ⟨d, rfl⟩ : ∃ d, j = i + d + 1 := ⟨j - i - 1, by omega⟩
  exact go d i hj
theorem ris_iff (Z : List (List UInt8)) : Z = risB Z ↔ rsT Z := by
  have hsrt : (srtB Z).Pairwise fun x y => x ≤ y := by
    have h := List.pairwise_mergeSort (le := fun x y : List UInt8 => decide (x ≤ y)) (fun a b c h1 h2 => by simp only [decide_eq_true_eq] at *; exact List.le_trans h1 h2) (fun a b => by simp only [Bool.or_eq_true, decide_eq_true_eq]; exact List.le_total a b) Z
    unfold srtB
    exact h.imp fun h => of_decide_eq_true h
  have hlen : (srtB Z).length = Z.length := by unfold srtB; exact List.length_mergeSort Z
  constructor
  · intro h
    have hl : (risB Z).length = (srtB Z).length := by rw [← h, hlen]
    unfold risB Lib.compact Lib.compactUpTo at hl
    rw [List.length_map] at hl
    have hk := List.length_filter_eq_length_iff.1 (hl.trans (by simp))
    have hk' : ∀ j, j < (srtB Z).length → Lib.keeps (srtB Z).toArray j = true := fun j hj => hk j (List.mem_range.2 hj)
    have hS : Z = srtB Z := by
      have h5 : risB Z = srtB Z := by
        unfold risB Lib.compact
        rw [Lib.compactUpTo_all _ _ hk', range_get]
      exact h.trans h5
    intro j hj
    have h1 := hk' (j + 1) (by rw [hlen]; exact hj)
    have h2 : (srtB Z)[j + 1]'(by rw [hlen]; exact hj) ≠ (srtB Z)[j]'(by rw [hlen]; omega) := by
      have h3 : decide (j + 1 = 0 ∨ (srtB Z).toArray[j + 1]! ≠ (srtB Z).toArray[j + 1 - 1]!) = true := h1
      rcases of_decide_eq_true h3 with h4 | h4
      · omega
      · intro e
        apply h4
        rw [getElem!_pos _ _ (by simp [hlen]; exact hj), getElem!_pos _ _ (by simp [hlen]; omega)]
        simpa using e
    have h3 := List.pairwise_iff_getElem.1 hsrt j (j + 1) (by rw [hlen]; omega) (by rw [hlen]; exact hj) (by omega)
    have e1 : Z[j] = (srtB Z)[j]'(by rw [hlen]; omega) := by congr 1
    have e2 : Z[j + 1] = (srtB Z)[j + 1]'(by rw [hlen]; exact hj) := by congr 1
    rw [cb_lt_iff, e1, e2]
    rcases List.le_iff_lt_or_eq.1 h3 with h6 | h6
    · exact h6
    · exact absurd h6.symm h2
  · intro h
    have hp := rsT_pair h
    have hS : srtB Z = Z := by
      unfold srtB
      exact List.mergeSort_of_pairwise (hp.imp fun h => decide_eq_true (List.le_of_lt h))
    unfold risB Lib.compact
    rw [hS, Lib.compactUpTo_all, range_get]
    intro j hj
    cases j with
    | zero => exact Lib.keeps_lt_one _ 0 (by omega)
    | succ j =>
      refine Lib.keeps_pos ?_
      rw [getElem!_pos _ _ (by simpa using hj), getElem!_pos _ _ (by simp; omega)]
      intro e
      have h1 := List.pairwise_iff_getElem.1 hp j (j + 1) (by omega) hj (by omega)
      have e' : Z[j + 1] = Z[j] := by simpa using e
      rw [e'] at h1
      exact absurd h1 (List.lt_irrefl _)
end Ve
end Go.Proofs.YtmbphngmaglgmaaGreatDoor

/-
  Modules appended to an own row; the document's IsAhead.
-/
namespace Go.Proofs.YtmbphngmaglgmaaGreatDoor
open Go.RowKit Go.Maps
namespace Ve

/-- A row of modules, appended to an own one. -/
theorem both_run (X Y : List Bm) (dv sv : Value) (W : World) (B : Nat) (hB : B ≤ W.heap.size) (hX : X.length ≤ 1000) (hY : Y.length ≤ 1000) (ho : W.ownsRow B 53 2 dv X.length (flatM X)) (h : MsAt W sv Y) (he : Em sv Y) :
    ∃ v' W', (Builtin.append_ #[54, 54] 54 #[dv, sv]).run Tryz.prog W = .ok v' W' ∧ W'.ownsRow B 53 2 v' (X ++ Y).length (flatM (X ++ Y)) ∧ W.grownBy W' dv.ownBlock := by
  obtain ⟨i0, hi, hz0, hz1, hz2⟩ := info_parts infoMod
  obtain ⟨a, c, rfl, hc, h2⟩ := h
  have some_case : ∀ a', (∀ j u, (flatM Y)[j]? = some u → W.cell? (a'.add j) = some u) → ∃ v' W', (Builtin.append_ #[54, 54] 54 #[dv, .slice (some a') Y.length c]).run Tryz.prog W = .ok v' W' ∧ W'.ownsRow B 53 2 v' (X ++ Y).length (flatM (X ++ Y)) ∧ W.grownBy W' dv.ownBlock := fun a' hcell => by
    obtain ⟨v', W', h3, h4, h5, _⟩ := run_append_own (P := Tryz.prog) W B 54 54 53 i0 _ 2 32 Tryz.underlying54 hi hz0 hz1 hz2 rfl (by decide) dv X.length (flatM X) ho a' Y.length c (flatM Y) (flatM_len Y) hcell (flat_one Y) (by unfold maxLen; omega) (by omega) hB
    exact ⟨v', W', h3, by rw [List.length_append, flatM_app]; exact h4, h5⟩
  cases Y with
  | nil =>
    rcases he a c rfl rfl with hz | ⟨a', hz⟩
    · refine ⟨dv, W, ?_, by simpa using ho, ⟨rfl, rfl, rfl, Nat.le_refl _, fun _ _ _ => rfl⟩⟩
      show (Builtin.append_ #[54, 54] 54 #[dv, .slice a 0 c]).run Tryz.prog W = _
      rw [hz]
      exact run_append_owned_none (P := Tryz.prog) (w := W) B 54 54 53 i0 2 Tryz.underlying54 hi dv X.length (flatM X) ho
    · have hz' : (Value.slice a ([] : List Bm).length c) = .slice (some a') ([] : List Bm).length c := hz
      rw [hz']
      exact some_case a' (fun j u hj => by simp [flatM] at hj)
  | cons x r =>
    obtain ⟨b, o, rfl, hcell⟩ := h2 (by simp)
    exact some_case ⟨b, o, none⟩ (fun j u hj => by rw [Addr.add_lit]; exact ms_flat hcell j u hj)
set_option maxHeartbeats 1000000 in
/-- pewholderref1.IsAhead. -/
theorem isA_any (a b : Bm) (w : World) (hv : a.2.size < 999999) (hu : b.2.size < 999999) :
    Calls Tryz.prog 137 #[.agg #[.string a.1, .string a.2], .agg #[.string b.1, .string b.2]] w fun e w' => e = .returned (.bool (mAhead a b)) ∧ Below w.heap.size w w' := by
  obtain ⟨p, v⟩ := a
  obtain ⟨q, u⟩ := b
  have HO := hid (show mAhead (p, v) (q, u) = if p.data.toList = q.data.toList then lessB v.data.toList u.data.toList else decide (Lib.compareBytes p.data.toList q.data.toList < 0) from rfl)
  have HB0 := hid (((Below.refl w.heap.size w).alloc (Nat.le_refl _) (.cells #[.string p, .string v] 53)).alloc (by simp) (.cells #[.string q, .string u] 53))
  simp only at hv hu
  by_cases h : p = q
  · subst h
    rw [if_pos rfl] at HO
    have he := str_refl p
    have HL := hid (fun W => isLess_any v u W hv hu)
    go_enter Tryz.func137, Tryz.ntmps137
    go_wp2_with fail
    refine (HL.out _).mono ?_
    rintro e w1 ⟨rfl, hb⟩
    have HB := hid (HB0.out.trans (hb.mono HB0.out.size))
    clear hb
    go_wp2_with fail
    go_ret
    exact ⟨ret_bool HO.out.symm, HB.out⟩
  · rw [if_neg (fun e => h (str_ext e))] at HO
    have he := str_ne h
    have HC := hid (show Op.bytesLess p.toList q.toList = decide (Lib.compareBytes p.data.toList q.data.toList < 0) by rw [cb_less, ByteArray.toList_eq, ByteArray.toList_eq])
    clear h
    go_enter Tryz.func137, Tryz.ntmps137
    go_wp2_with fail
    go_ret
    exact ⟨ret_bool (by rw [HO.out, ← HC.out]), HB0.out⟩
end Ve
end Go.Proofs.YtmbphngmaglgmaaGreatDoor

/-
  What the document's answer says of an entry (entryError).
-/
namespace Go.Proofs.YtmbphngmaglgmaaGreatDoor
open Go.RowKit Go.Maps
namespace Ve

theorem es_all {W : World} {b o n c : Nat} {Q : List Raw} (h : EsAt W (.slice (some ⟨b, o, none⟩) n c) Q) {k : Nat} (hk : k < Q.length) : slR Q[k] ∧ W.cell? ⟨b, o + k * 5, none⟩ = some (.string Q[k].1.1) ∧ W.cell? ⟨b, o + k * 5 + 1, none⟩ = some (.string Q[k].1.2) ∧ W.cell? ⟨b, o + k * 5 + 2, none⟩ = some Q[k].2.1 ∧ W.cell? ⟨b, o + k * 5 + 3, none⟩ = some Q[k].2.2.1 ∧ W.cell? ⟨b, o + k * 5 + 4, none⟩ = some (.bool Q[k].2.2.2) := by
  obtain ⟨a', c', e, _, hs, h⟩ := h
  injection e with e1 e2 e3
  subst e1
  obtain ⟨b', o', e4, h4⟩ := h (by intro h0; rw [h0] at hk; simp at hk)
  injection e4 with e4
  injection e4 with e5 e6
  subst e5 e6
  exact ⟨hs _ (List.getElem_mem hk), h4 k hk⟩
theorem reqsR_code (own : ByteArray) (L : List Bm) : (reqsR own L).1 = codeE (reqE own L) L.length := by
  unfold reqsR codeE
  cases fstE (reqE own L) L.length <;> rfl
theorem pk_rise {Z : List (List UInt8)} (h : ¬ 10 < Z.length) (h1 : Z.any noPk = false) (h2 : rsT Z) : packErr Z = 0 := pk_ok h h1 ((ris_iff Z).2 h2)
theorem pk_fall {Z : List (List UInt8)} (h : ¬ 10 < Z.length) (h1 : Z.any noPk = false) (h2 : ¬ rsT Z) : packErr Z = 8 := pk_order h h1 (fun e => h2 ((ris_iff Z).1 e))
theorem any_noPk {X : List ByteArray} (h : ∀ j (h : j < X.length), noPk X[j].data.toList = false) : (bl X).any noPk = false := by
  cases e : (bl X).any noPk
  · rfl
  · obtain ⟨z, hz, h1⟩ := List.any_eq_true.1 e
    obtain ⟨j, hj, rfl⟩ := List.getElem_of_mem hz
    have hj2 : j < X.length := by rw [bl_len] at hj; exact hj
    have := h j hj2
    have e2 : (bl X)[j] = X[j].data.toList := by simp [bl]
    rw [e2, this] at h1; cases h1
theorem any_noPk' {X : List ByteArray} {j : Nat} (hj : j < X.length) (h : noPk X[j].data.toList = true) : (bl X).any noPk = true :=
  List.any_eq_true.2 ⟨X[j].data.toList, bl_mem (List.getElem_mem hj), h⟩
theorem rsT_of {X : List ByteArray} (h : ∀ j (h : j + 1 < X.length), noLess X[j] X[j + 1] = false) : rsT (bl X) := fun j hj => by
  have hj2 : j + 1 < X.length := by rw [bl_len] at hj; exact hj
  have h1 := h j hj2
  have e1 : (bl X)[j] = (X[j]'(by omega)).data.toList := by simp [bl]
  have e2 : (bl X)[j + 1] = X[j + 1].data.toList := by simp [bl]
  rw [e1, e2]
  unfold noLess at h1
  simpa using h1
theorem rsT_not {X : List ByteArray} {j : Nat} (hj : j + 1 < X.length) (h : noLess X[j] X[j + 1] = true) : ¬ rsT (bl X) := fun hr => by
  have h1 := hr j (by rw [bl_len]; exact hj)
  have e1 : (bl X)[j]'(by rw [bl_len]; omega) = (X[j]'(by omega)).data.toList := by simp [bl]
  have e2 : (bl X)[j + 1]'(by rw [bl_len]; exact hj) = X[j + 1].data.toList := by simp [bl]
  rw [e1, e2] at h1
  unfold noLess at h
  simp only [Bool.not_eq_true', decide_eq_false_iff_not] at h
  exact h h1
theorem TxAt.cells {W : World} {a : Option Addr} {n c : Nat} {X : List ByteArray} (h : TxAt W (.slice a n c) X) {k : Nat} (hk : k < X.length) : ∃ b o, a = some ⟨b, o, none⟩ ∧ ∀ j (h : j < X.length), W.cell? ⟨b, o + j, none⟩ = some (.string X[j]) := by
  obtain ⟨a', c', e, _, h⟩ := h
  injection e with e1 e2 e3
  subst e1
  exact h (by intro h0; rw [h0] at hk; simp at hk)
set_option maxRecDepth 100000 in
set_option maxHeartbeats 16000000 in
theorem entE0_any (Q : List Raw) (L : List Ent) (b o c : Nat) (w : World) (sh : ∀ e, e ∈ L → ShE e) (I : Ixs w (.slice (some ⟨b, o, none⟩) Q.length c) Q L) (h0 : 0 < L.length) :
    Calls Tryz.prog 97 #[.slice (some ⟨b, o, none⟩) Q.length c, .int .i64 0] w fun e w' => e = .returned (.int .i64 (entE L 0 : Nat)) ∧ Below w.heap.size w w' := by
  have hq : 0 < Q.length := by rw [I.ln]; exact h0
  obtain ⟨hsl, x0, x1, x2, x3, x4⟩ := es_all I.es hq
  simp only [Nat.zero_mul, Nat.add_zero] at x0 x1 x2 x3 x4
  have hok := fun W (h : Below w.heap.size w W) => (I.below h).ok 0 hq h0
  have HSH := hid (sh L[0] (List.getElem_mem h0))
  rw [entE_0 h0]
  generalize Q[0] = r at *
  generalize L[0] = en at *
  obtain ⟨⟨p, q⟩, rv, pv, bk⟩ := r
  obtain ⟨⟨p', q'⟩, eR, eP, bk'⟩ := en
  obtain ⟨hm, hrq, hpk, hbk⟩ := hok w (Below.refl _ _)
  simp only at hm hrq hpk hbk
  injection hm with hm1 hm2
  subst hm1 hm2 hbk
  obtain ⟨ra, rc, hrv, -⟩ := id hrq
  obtain ⟨pa, pc, hpv, -⟩ := id hpk
  subst hrv hpv
  have HRM := hid (fun W (h : Below w.heap.size w W) => hrq.below h)
  have HTX := hid (fun W (h : Below w.heap.size w W) => hpk.below h)
  have hqI : (0 : Int) < (Q.length : Int) := by omega
  clear I sh h0 hok hrq hpk hsl
  have HB0 := hid ((Below.refl w.heap.size w).alloc (Nat.le_refl _) (.cells #[.string p, .string q, .slice ra eR.length rc, .slice pa eP.length pc, .bool bk] 56))
  have HE0 := hid (heap_new w (.cells #[.string p, .string q, .slice ra eR.length rc, .slice pa eP.length pc, .bool bk] 56))
  have HM := hid (modError_any p q (w.alloc (.cells #[.string p, .string q, .slice ra eR.length rc, .slice pa eP.length pc, .bool bk] 56)) (by have := HSH.out.p; simp only at this; omega) (by have := HSH.out.v; simp only at this; omega))
  have hme : mErr (p, q) = modErr p.data.toList q.data.toList := rfl
  rw [← hme] at HM
  by_cases h : mErr (p, q) = 0
  · have HXR := hid (entW_none (e := ((p, q), eR, eP, bk)) h)
    rw [h] at HM
    clear h hme
    go_enter Tryz.func97, Tryz.ntmps97
    go_wp2_with fail
    refine HM.out.mono ?_
    rintro e wz ⟨rfl, hb⟩
    have HBz := hid (HB0.out.trans (hb.mono HB0.out.size))
    have HEz := hid (show wz.heap[w.heap.size]? = some (.cells #[.string p, .string q, .slice ra eR.length rc, .slice pa eP.length pc, .bool bk] 56 (0, 0)) by rw [hb.block _ (lt_of_blk HE0.out)]; exact HE0.out)
    clear hb HM
    have z0 : wz.cell? ⟨w.heap.size, 0, none⟩ = some (.string p) := by rw [Lib.cell_of_heap HEz.out]; rfl
    have z1 : wz.cell? ⟨w.heap.size, 1, none⟩ = some (.string q) := by rw [Lib.cell_of_heap HEz.out]; rfl
    have z2 : wz.cell? ⟨w.heap.size, 2, none⟩ = some (.slice ra eR.length rc) := by rw [Lib.cell_of_heap HEz.out]; rfl
    have z3 : wz.cell? ⟨w.heap.size, 3, none⟩ = some (.slice pa eP.length pc) := by rw [Lib.cell_of_heap HEz.out]; rfl
    have z4 : wz.cell? ⟨w.heap.size, 4, none⟩ = some (.bool bk) := by rw [Lib.cell_of_heap HEz.out]; rfl
    by_cases hf : 20 < eR.length
    · have q2 : (20 : Int) < (eR.length : Int) := by omega
      have HX := hid (HXR.out.trans (entR_full hf))
      clear hf
      go_wp2_with fail
      go_ret
      exact ⟨by rw [HX.out]; rfl, HBz.out⟩
    · have q2 : ¬ (20 : Int) < (eR.length : Int) := by omega
      have HF := hid hf
      have HRQ := hid (reqsE_any p eR _ wz HSH.out.rn HSH.out.rs (HRM.out _ HBz.out))
      rw [reqsR_code] at HRQ
      clear hf
      by_cases hc : codeE (reqE p eR) eR.length = 0
      · have HX := hid (HXR.out.trans (entR_pack HF.out hc))
        rw [hc] at HRQ
        clear hc
        go_wp2_with fail
        refine HRQ.out.mono ?_
        rintro e wy ⟨rfl, hb⟩
        have HBy := hid (HBz.out.trans (hb.mono HBz.out.size))
        have HEy := hid (show wy.heap[w.heap.size]? = some (.cells #[.string p, .string q, .slice ra eR.length rc, .slice pa eP.length pc, .bool bk] 56 (0, 0)) by rw [hb.block _ (lt_of_blk HEz.out)]; exact HEz.out)
        clear hb z0 z1 z2 z3 z4 HRQ
        have y0 : wy.cell? ⟨w.heap.size, 0, none⟩ = some (.string p) := by rw [Lib.cell_of_heap HEy.out]; rfl
        have y1 : wy.cell? ⟨w.heap.size, 1, none⟩ = some (.string q) := by rw [Lib.cell_of_heap HEy.out]; rfl
        have y2 : wy.cell? ⟨w.heap.size, 2, none⟩ = some (.slice ra eR.length rc) := by rw [Lib.cell_of_heap HEy.out]; rfl
        have y3 : wy.cell? ⟨w.heap.size, 3, none⟩ = some (.slice pa eP.length pc) := by rw [Lib.cell_of_heap HEy.out]; rfl
        have y4 : wy.cell? ⟨w.heap.size, 4, none⟩ = some (.bool bk) := by rw [Lib.cell_of_heap HEy.out]; rfl
        by_cases hp10 : 10 < eP.length
        · have q3 : (10 : Int) < (eP.length : Int) := by omega
          have HX2 := hid (HX.out.trans (pk_full (by rw [bl_len]; exact hp10)))
          clear hp10
          go_wp2_with fail
          go_ret
          exact ⟨by rw [HX2.out]; rfl, HBy.out⟩
        · have q3 : ¬ (10 : Int) < (eP.length : Int) := by omega
          have HP10 := hid (show ¬ 10 < (bl eP).length by rw [bl_len]; exact hp10)
          have hpl : eP.length ≤ 10 := by omega
          clear hp10
          go_wp2_with fail
          go_loopw [8] (fun kv wr => ∃ k : Nat, k ≤ eP.length ∧ kv = .int .i64 k ∧ Hid (∀ j (h : j < eP.length), j < k → noPk eP[j].data.toList = false) ∧ Hid (Below w.heap.size w wr) ∧ Hid (wr.heap[w.heap.size]? = some (.cells #[.string p, .string q, .slice ra eR.length rc, .slice pa eP.length pc, .bool bk] 56 (0, 0)))) (fun kv _ => eP.length - (intOf kv).toNat)
          case atStart => exact ⟨0, Nat.zero_le _, rfl, hid (fun j _ h => absurd h (Nat.not_lt_zero _)), HBy, HEy⟩
          case round =>
            clear y0 y1 y2 y3 y4
            obtain ⟨k, hk, rfl, HA, HBr, HEr⟩ := hrel
            have r0 : wr.cell? ⟨w.heap.size, 0, none⟩ = some (.string p) := by rw [Lib.cell_of_heap HEr.out]; rfl
            have r1 : wr.cell? ⟨w.heap.size, 1, none⟩ = some (.string q) := by rw [Lib.cell_of_heap HEr.out]; rfl
            have r2 : wr.cell? ⟨w.heap.size, 2, none⟩ = some (.slice ra eR.length rc) := by rw [Lib.cell_of_heap HEr.out]; rfl
            have r3 : wr.cell? ⟨w.heap.size, 3, none⟩ = some (.slice pa eP.length pc) := by rw [Lib.cell_of_heap HEr.out]; rfl
            have r4 : wr.cell? ⟨w.heap.size, 4, none⟩ = some (.bool bk) := by rw [Lib.cell_of_heap HEr.out]; rfl
            by_cases hlt : k < eP.length
            · have hkI : (k : Int) < (eP.length : Int) := by omega
              have hk0 : (0 : Int) ≤ (k : Int) := by omega
              obtain ⟨pb, po, hpa, hcl⟩ := (HTX.out _ HBr.out).cells hlt
              have t0 := hcl k hlt
              subst hpa
              have HLT := hid hlt
              have hsz := HSH.out.ps eP[k] (List.getElem_mem hlt)
              have HNX := hid (show noPk eP[k].data.toList = false → ∀ j (h : j < eP.length), j < k + 1 → noPk eP[j].data.toList = false from fun h0 j h1 h3 => by
                rcases Nat.lt_or_ge j k with h | h
                · exact HA.out j h1 h
                · have : j = k := by omega
                  subst this; exact h0)
              have HBD := hid (show noPk eP[k].data.toList = true → packErr (bl eP) = 1 from fun h => pk_text HP10.out (any_noPk' hlt h))
              generalize eP[k] = z at *
              clear hcl hlt
              by_cases hdot : z = ⟨#[46]⟩
              · subst hdot
                have s0 : ((⟨#[46]⟩ : ByteArray).toList == (⟨#[46]⟩ : ByteArray).toList) = true := by simp
                have HN2 := hid (HNX.out (by decide))
                go_wp2_with fail
                go_roundw
                case rel => first | exact ⟨k + 1, HLT.out, nr_idx k, HN2, HBr, HEr⟩ | exact ⟨k + 1, HLT.out, nx_idx HLT.out (by omega), HN2, HBr, HEr⟩
                case measure => first | exact nr_meas HLT.out | exact nx_meas HLT.out (by omega)
              · have hqd : (z.toList == [46]) = false := by rw [ByteArray.toList_eq]; exact beq_eq_false_iff_ne.2 (fun e => hdot (str_ext (by rw [e])))
                have hd2 : z.data.toList ≠ [46] := fun e => hdot (str_ext (by rw [e]))
                have HPE := hid (fun W => pathError_any z W (by omega))
                by_cases hpe : pathErr z.data.toList = 0
                · rw [hpe] at HPE
                  have HN2 := hid (HNX.out (by unfold noPk; simp [hpe]))
                  clear hpe hd2 hdot
                  go_wp2_with fail
                  refine (HPE.out _).mono ?_
                  rintro e wv ⟨rfl, hb⟩
                  have HBv := hid (HBr.out.trans (hb.mono HBr.out.size))
                  have HEv := hid ((hb.block _ (lt_of_blk HEr.out)).trans HEr.out)
                  clear hb
                  go_wp2_with fail
                  go_roundw
                  case rel => first | exact ⟨k + 1, HLT.out, nr_idx k, HN2, HBv, HEv⟩ | exact ⟨k + 1, HLT.out, nx_idx HLT.out (by omega), HN2, HBv, HEv⟩
                  case measure => first | exact nr_meas HLT.out | exact nx_meas HLT.out (by omega)
                · have HX2 := hid (HX.out.trans (HBD.out (by unfold noPk; simp [hpe, hd2])))
                  have hpos : (0 : Int) < ((pathErr z.data.toList : Nat) : Int) := by omega
                  generalize pathErr z.data.toList = pe at *
                  clear hpe hd2 hdot
                  go_wp2_with fail
                  refine (HPE.out _).mono ?_
                  rintro e wv ⟨rfl, hb⟩
                  have HBv := hid (HBr.out.trans (hb.mono HBr.out.size))
                  clear hb
                  go_wp2_with fail
                  go_ret
                  exact ⟨by rw [HX2.out]; rfl, HBv.out⟩
            · have hkI : ¬ (k : Int) < (eP.length : Int) := by omega
              have HNO := hid (show (bl eP).any noPk = false from any_noPk fun j h => HA.out j h (by omega))
              clear hlt
              go_wp2_with fail
              go_loopw [9] (fun kv wr => ∃ k : Nat, 1 ≤ k ∧ (k ≤ eP.length ∨ k = 1) ∧ kv = .int .i64 k ∧ Hid (∀ j (h : j + 1 < eP.length), j + 1 < k → noLess eP[j] eP[j + 1] = false) ∧ Hid (Below w.heap.size w wr) ∧ Hid (wr.heap[w.heap.size]? = some (.cells #[.string p, .string q, .slice ra eR.length rc, .slice pa eP.length pc, .bool bk] 56 (0, 0)))) (fun kv _ => eP.length - (intOf kv).toNat)
              case atStart => exact ⟨1, Nat.le_refl _, Or.inr rfl, rfl, hid (fun j _ h => by omega), HBr, HEr⟩
              case round =>
                clear r0 r1 r2 r3 r4
                obtain ⟨k2, hk1, hk2, rfl, HA2, HBs, HEs⟩ := hrel
                have s0 : wr.cell? ⟨w.heap.size, 0, none⟩ = some (.string p) := by rw [Lib.cell_of_heap HEs.out]; rfl
                have s1 : wr.cell? ⟨w.heap.size, 1, none⟩ = some (.string q) := by rw [Lib.cell_of_heap HEs.out]; rfl
                have s2 : wr.cell? ⟨w.heap.size, 2, none⟩ = some (.slice ra eR.length rc) := by rw [Lib.cell_of_heap HEs.out]; rfl
                have s3 : wr.cell? ⟨w.heap.size, 3, none⟩ = some (.slice pa eP.length pc) := by rw [Lib.cell_of_heap HEs.out]; rfl
                have s4 : wr.cell? ⟨w.heap.size, 4, none⟩ = some (.bool bk) := by rw [Lib.cell_of_heap HEs.out]; rfl
                by_cases hlt : k2 < eP.length
                · obtain ⟨j, rfl⟩ : ∃ j, k2 = j + 1 := ⟨k2 - 1, by omega⟩
                  have hkI2 : ((j + 1 : Nat) : Int) < (eP.length : Int) := by omega
                  have hkI3 : (j : Int) < (eP.length : Int) := by omega
                  have hk00 : (0 : Int) ≤ ((j + 1 : Nat) : Int) := by omega
                  have hk01 : (0 : Int) ≤ (j : Int) := by omega
                  have hk02 : ((j + 1 : Nat) : Int) - 1 = (j : Int) := by omega
                  have hwp : IntKind.i64.wrap (j : Int) = (j : Int) := by rw [IntKind.wrap_i64]; omega
                  have hk03 : (j : Int) + 1 - 1 = (j : Int) := by omega
                  obtain ⟨pb, po, hpa, hcl⟩ := (HTX.out _ HBs.out).cells hlt
                  have t0 := hcl (j + 1) hlt
                  have t1 := hcl j (by omega)
                  subst hpa
                  have HLT := hid hlt
                  have HNX := hid (show noLess eP[j] eP[j + 1] = false → ∀ i (h : i + 1 < eP.length), i + 1 < j + 1 + 1 → noLess eP[i] eP[i + 1] = false from fun h0 i h1 h3 => by
                    rcases Nat.lt_or_ge i j with h | h
                    · exact HA2.out i h1 (by omega)
                    · have : i = j := by omega
                      subst this; exact h0)
                  have HBD := hid (show noLess eP[j] eP[j + 1] = true → packErr (bl eP) = 8 from fun h => pk_fall HP10.out HNO.out (rsT_not hlt h))
                  generalize eP[j + 1] = za at *
                  generalize eP[j] = zb at *
                  have hle := fun X => leq_is za zb X
                  clear hcl hlt
                  cases hnl : noLess zb za
                  · rw [hnl] at hle
                    have HN2 := hid (HNX.out hnl)
                    clear hnl
                    go_wp2_with fail
                    go_quiet (fail)
                    have HBd := hid (below_drawn_of HBs.out nq)
                    have HEd := hid (show (wr.drewN nq).heap[w.heap.size]? = _ from HEs.out)
                    go_wp2_with fail
                    go_roundw
                    case rel => first | exact ⟨j + 1 + 1, by omega, Or.inl HLT.out, nr_idx (j + 1), HN2, HBd, HEd⟩ | exact ⟨j + 1 + 1, by omega, Or.inl HLT.out, nx_idx HLT.out (by omega), HN2, HBd, HEd⟩
                    case measure => first | exact nr_meas HLT.out | exact nx_meas HLT.out (by omega)
                  · rw [hnl] at hle
                    have HX2 := hid (HX.out.trans (HBD.out hnl))
                    clear hnl
                    go_wp2_with fail
                    go_quiet (fail)
                    have HBd := hid (below_drawn_of HBs.out nq)
                    go_wp2_with fail
                    go_ret
                    exact ⟨by rw [HX2.out]; rfl, HBd.out⟩
                · have hkI2 : ¬ (k2 : Int) < (eP.length : Int) := by omega
                  have HX2 := hid (HX.out.trans (pk_rise HP10.out HNO.out (rsT_of fun j h => HA2.out j h (by omega))))
                  clear hlt
                  go_wp2_with fail
                  go_ret
                  exact ⟨by rw [HX2.out]; rfl, HBs.out⟩
      · have HX := hid (HXR.out.trans (entR_req HF.out hc))
        have hpos : (0 : Int) < ((codeE (reqE p eR) eR.length : Nat) : Int) := by omega
        generalize codeE (reqE p eR) eR.length = cd at *
        clear hc
        go_wp2_with fail
        refine HRQ.out.mono ?_
        rintro e wy ⟨rfl, hb⟩
        have HBy := hid (HBz.out.trans (hb.mono HBz.out.size))
        clear hb
        go_wp2_with fail
        go_ret
        exact ⟨by rw [HX.out]; rfl, HBy.out⟩
  · have HX := hid (entW_bad (o := none) (e := ((p, q), eR, eP, bk)) h)
    have hpos : (0 : Int) < ((mErr (p, q) : Nat) : Int) := by omega
    generalize mErr (p, q) = z at *
    clear h hme
    go_enter Tryz.func97, Tryz.ntmps97
    go_wp2_with fail
    refine HM.out.mono ?_
    rintro e wz ⟨rfl, hb⟩
    have HBz := hid (HB0.out.trans (hb.mono HB0.out.size))
    clear hb HM
    go_wp2_with fail
    go_ret
    exact ⟨by rw [HX.out]; rfl, HBz.out⟩
set_option maxRecDepth 100000 in
set_option maxHeartbeats 16000000 in
theorem entE1_any (Q : List Raw) (L : List Ent) (b o c : Nat) (w : World) (sh : ∀ e, e ∈ L → ShE e) (I : Ixs w (.slice (some ⟨b, o, none⟩) Q.length c) Q L) (k : Nat) (h0 : k + 1 < L.length) (hn : L.length ≤ 1000) :
    Calls Tryz.prog 97 #[.slice (some ⟨b, o, none⟩) Q.length c, .int .i64 ((k + 1 : Nat) : Int)] w fun e w' => e = .returned (.int .i64 (entE L (k + 1) : Nat)) ∧ Below w.heap.size w w' := by
  have hq : k + 1 < Q.length := by rw [I.ln]; exact h0
  obtain ⟨hsl, x0, x1, x2, x3, x4⟩ := es_all I.es hq
  have hqk : k < Q.length := by omega
  have hlk : k < L.length := by omega
  obtain ⟨_, u0, u1, _, _, _⟩ := es_all I.es hqk
  have HPM := hid (show Q[k].1 = L[k].1 from (I.ok k hqk hlk).m)
  have HSK := hid (sh L[k] (List.getElem_mem hlk))
  have hok := fun W (h : Below w.heap.size w W) => (I.below h).ok (k + 1) hq h0
  have HSH := hid (sh L[k + 1] (List.getElem_mem h0))
  rw [entE_1 h0]
  generalize Q[k + 1] = r at *
  generalize L[k + 1] = en at *
  have hpv : (L[k]'hlk).1.2.size < 999999 := HSK.out.v
  rw [← HPM.out] at hpv ⊢
  generalize (Q[k]'hqk).1 = pm at *
  obtain ⟨pp, pq⟩ := pm
  simp only at u0 u1 hpv
  obtain ⟨⟨p, q⟩, rv, pv, bk⟩ := r
  obtain ⟨⟨p', q'⟩, eR, eP, bk'⟩ := en
  obtain ⟨hm, hrq, hpk, hbk⟩ := hok w (Below.refl _ _)
  simp only at hm hrq hpk hbk
  injection hm with hm1 hm2
  subst hm1 hm2 hbk
  obtain ⟨ra, rc, hrv, -⟩ := id hrq
  obtain ⟨pa, pc, hpv9, -⟩ := id hpk
  subst hrv hpv9
  have HRM := hid (fun W (h : Below w.heap.size w W) => hrq.below h)
  have HTX := hid (fun W (h : Below w.heap.size w W) => hpk.below h)
  have hqI : ((k + 1 : Nat) : Int) < (Q.length : Int) := by omega
  have hqJ : (0 : Int) ≤ ((k + 1 : Nat) : Int) := by omega
  have hqK : (0 : Int) < ((k + 1 : Nat) : Int) := by omega
  have hqL : ((k + 1 : Nat) : Int) - 1 = (k : Int) := by omega
  have hqM : (k : Int) < (Q.length : Int) := by omega
  have hqN : (0 : Int) ≤ (k : Int) := by omega
  have hwp : IntKind.i64.wrap (k : Int) = (k : Int) := by rw [IntKind.wrap_i64]; omega
  have hqO : (k : Int) + 1 - 1 = (k : Int) := by omega
  have hqP : (k : Int) + 1 < (Q.length : Int) := by omega
  have hqR : (0 : Int) ≤ (k : Int) + 1 := by omega
  have hqS : (0 : Int) < (k : Int) + 1 := by omega
  have hqT : ((k : Int) + 1).toNat = k + 1 := by omega
  clear I sh h0 hok hrq hpk hsl
  have HB0 := hid ((Below.refl w.heap.size w).alloc (Nat.le_refl _) (.cells #[.string p, .string q, .slice ra eR.length rc, .slice pa eP.length pc, .bool bk] 56))
  have HE0 := hid (heap_new w (.cells #[.string p, .string q, .slice ra eR.length rc, .slice pa eP.length pc, .bool bk] 56))
  have HM := hid (modError_any p q (w.alloc (.cells #[.string p, .string q, .slice ra eR.length rc, .slice pa eP.length pc, .bool bk] 56)) (by have := HSH.out.p; simp only at this; omega) (by have := HSH.out.v; simp only at this; omega))
  have hme : mErr (p, q) = modErr p.data.toList q.data.toList := rfl
  rw [← hme] at HM
  by_cases h : mErr (p, q) = 0
  · have H0 := hid h
    rw [h] at HM
    clear h hme
    go_enter Tryz.func97, Tryz.ntmps97
    go_wp2_with fail
    refine HM.out.mono ?_
    rintro e wx ⟨rfl, hb⟩
    have HBx := hid (HB0.out.trans (hb.mono HB0.out.size))
    have HEx := hid (show wx.heap[w.heap.size]? = some (.cells #[.string p, .string q, .slice ra eR.length rc, .slice pa eP.length pc, .bool bk] 56 (0, 0)) by rw [hb.block _ (lt_of_blk HE0.out)]; exact HE0.out)
    clear hb HM
    have HIA := hid (fun W => isA_any (pp, pq) (p, q) W hpv (by have := HSH.out.v; simp only at this ⊢; omega))
    have g0 := cell_below HBx.out u0
    have g1 := cell_below HBx.out u1
    have f0 : wx.cell? ⟨w.heap.size, 0, none⟩ = some (.string p) := by rw [Lib.cell_of_heap HEx.out]; rfl
    have f1 : wx.cell? ⟨w.heap.size, 1, none⟩ = some (.string q) := by rw [Lib.cell_of_heap HEx.out]; rfl
    have HT := hid (fun W' (hW : Below wx.heap.size wx W') => (show (fun W' => W'.cell? ⟨b, o + k * 5, none⟩ = some (.string pp) ∧ W'.cell? ⟨b, o + k * 5 + 1, none⟩ = some (.string pq) ∧ W'.cell? ⟨w.heap.size, 0, none⟩ = some (.string p) ∧ W'.cell? ⟨w.heap.size, 1, none⟩ = some (.string q) ∧ Hid (Below wx.heap.size wx W')) W' from ⟨cell_below hW g0, cell_below hW g1, cell_below hW f0, cell_below hW f1, hid hW⟩))
    cases hah : mAhead (pp, pq) (p, q)
    · have HX := hid (entW_order (p := (pp, pq)) (e := ((p, q), eR, eP, bk)) H0.out hah)
      rw [hah] at HIA
      clear hah
      go_wp2_with fail
      go_region_held (fun W' => W'.cell? ⟨b, o + k * 5, none⟩ = some (.string pp) ∧ W'.cell? ⟨b, o + k * 5 + 1, none⟩ = some (.string pq) ∧ W'.cell? ⟨w.heap.size, 0, none⟩ = some (.string p) ∧ W'.cell? ⟨w.heap.size, 1, none⟩ = some (.string q) ∧ Hid (Below wx.heap.size wx W')) (first | exact HT.out _ HRa.out | exact HT.out _ (below_drawn _ 1)) (first
        | (go_at_call 137; refine (HIA.out _).mono ?_; rintro e w' ⟨rfl, hb⟩; have HRa := hid ((below_drawn wx 1).trans (hb.mono (Nat.le_refl _))); clear hb))
      all_goals
        have HBz := hid (HBx.out.trans (HRa.out.mono HBx.out.size))
        go_wp2_with fail
        go_ret
        exact ⟨by rw [HX.out]; rfl, HBz.out⟩
    · have HXR := hid (entW_some (p := (pp, pq)) (e := ((p, q), eR, eP, bk)) H0.out hah)
      rw [hah] at HIA
      clear hah
      go_wp2_with fail
      go_region_held (fun W' => W'.cell? ⟨b, o + k * 5, none⟩ = some (.string pp) ∧ W'.cell? ⟨b, o + k * 5 + 1, none⟩ = some (.string pq) ∧ W'.cell? ⟨w.heap.size, 0, none⟩ = some (.string p) ∧ W'.cell? ⟨w.heap.size, 1, none⟩ = some (.string q) ∧ Hid (Below wx.heap.size wx W')) (first | exact HT.out _ HRa.out | exact HT.out _ (below_drawn _ 1)) (first
        | (go_at_call 137; refine (HIA.out _).mono ?_; rintro e w' ⟨rfl, hb⟩; have HRa := hid ((below_drawn wx 1).trans (hb.mono (Nat.le_refl _))); clear hb))
      all_goals
        have HBz := hid (HBx.out.trans (HRa.out.mono HBx.out.size))
        obtain ⟨wz, hwz⟩ : ∃ wz, w' = wz := ⟨_, rfl⟩
        rw [hwz] at HBz ⊢
        have HEz := hid (show wz.heap[w.heap.size]? = some (.cells #[.string p, .string q, .slice ra eR.length rc, .slice pa eP.length pc, .bool bk] 56 (0, 0)) by rw [← hwz, HRa.out.block _ (lt_of_blk HEx.out)]; exact HEx.out)
        clear hwz g0 g1 f0 f1
        have z0 : wz.cell? ⟨w.heap.size, 0, none⟩ = some (.string p) := by rw [Lib.cell_of_heap HEz.out]; rfl
        have z1 : wz.cell? ⟨w.heap.size, 1, none⟩ = some (.string q) := by rw [Lib.cell_of_heap HEz.out]; rfl
        have z2 : wz.cell? ⟨w.heap.size, 2, none⟩ = some (.slice ra eR.length rc) := by rw [Lib.cell_of_heap HEz.out]; rfl
        have z3 : wz.cell? ⟨w.heap.size, 3, none⟩ = some (.slice pa eP.length pc) := by rw [Lib.cell_of_heap HEz.out]; rfl
        have z4 : wz.cell? ⟨w.heap.size, 4, none⟩ = some (.bool bk) := by rw [Lib.cell_of_heap HEz.out]; rfl
        by_cases hf : 20 < eR.length
        · have q2 : (20 : Int) < (eR.length : Int) := by omega
          have HX := hid (HXR.out.trans (entR_full hf))
          clear hf
          go_wp2_with fail
          go_ret
          exact ⟨by rw [HX.out]; rfl, HBz.out⟩
        · have q2 : ¬ (20 : Int) < (eR.length : Int) := by omega
          have HF := hid hf
          have HRQ := hid (reqsE_any p eR _ wz HSH.out.rn HSH.out.rs (HRM.out _ HBz.out))
          rw [reqsR_code] at HRQ
          clear hf
          by_cases hc : codeE (reqE p eR) eR.length = 0
          · have HX := hid (HXR.out.trans (entR_pack HF.out hc))
            rw [hc] at HRQ
            clear hc
            go_wp2_with fail
            refine HRQ.out.mono ?_
            rintro e wy ⟨rfl, hb⟩
            have HBy := hid (HBz.out.trans (hb.mono HBz.out.size))
            have HEy := hid (show wy.heap[w.heap.size]? = some (.cells #[.string p, .string q, .slice ra eR.length rc, .slice pa eP.length pc, .bool bk] 56 (0, 0)) by rw [hb.block _ (lt_of_blk HEz.out)]; exact HEz.out)
            clear hb z0 z1 z2 z3 z4 HRQ
            have y0 : wy.cell? ⟨w.heap.size, 0, none⟩ = some (.string p) := by rw [Lib.cell_of_heap HEy.out]; rfl
            have y1 : wy.cell? ⟨w.heap.size, 1, none⟩ = some (.string q) := by rw [Lib.cell_of_heap HEy.out]; rfl
            have y2 : wy.cell? ⟨w.heap.size, 2, none⟩ = some (.slice ra eR.length rc) := by rw [Lib.cell_of_heap HEy.out]; rfl
            have y3 : wy.cell? ⟨w.heap.size, 3, none⟩ = some (.slice pa eP.length pc) := by rw [Lib.cell_of_heap HEy.out]; rfl
            have y4 : wy.cell? ⟨w.heap.size, 4, none⟩ = some (.bool bk) := by rw [Lib.cell_of_heap HEy.out]; rfl
            by_cases hp10 : 10 < eP.length
            · have q3 : (10 : Int) < (eP.length : Int) := by omega
              have HX2 := hid (HX.out.trans (pk_full (by rw [bl_len]; exact hp10)))
              clear hp10
              go_wp2_with fail
              go_ret
              exact ⟨by rw [HX2.out]; rfl, HBy.out⟩
            · have q3 : ¬ (10 : Int) < (eP.length : Int) := by omega
              have HP10 := hid (show ¬ 10 < (bl eP).length by rw [bl_len]; exact hp10)
              have hpl : eP.length ≤ 10 := by omega
              clear hp10
              go_wp2_with fail
              go_loopw [8] (fun kv wr => ∃ k : Nat, k ≤ eP.length ∧ kv = .int .i64 k ∧ Hid (∀ j (h : j < eP.length), j < k → noPk eP[j].data.toList = false) ∧ Hid (Below w.heap.size w wr) ∧ Hid (wr.heap[w.heap.size]? = some (.cells #[.string p, .string q, .slice ra eR.length rc, .slice pa eP.length pc, .bool bk] 56 (0, 0)))) (fun kv _ => eP.length - (intOf kv).toNat)
              case atStart => exact ⟨0, Nat.zero_le _, rfl, hid (fun j _ h => absurd h (Nat.not_lt_zero _)), HBy, HEy⟩
              case round =>
                clear y0 y1 y2 y3 y4
                obtain ⟨k, hk, rfl, HA, HBr, HEr⟩ := hrel
                have r0 : wr.cell? ⟨w.heap.size, 0, none⟩ = some (.string p) := by rw [Lib.cell_of_heap HEr.out]; rfl
                have r1 : wr.cell? ⟨w.heap.size, 1, none⟩ = some (.string q) := by rw [Lib.cell_of_heap HEr.out]; rfl
                have r2 : wr.cell? ⟨w.heap.size, 2, none⟩ = some (.slice ra eR.length rc) := by rw [Lib.cell_of_heap HEr.out]; rfl
                have r3 : wr.cell? ⟨w.heap.size, 3, none⟩ = some (.slice pa eP.length pc) := by rw [Lib.cell_of_heap HEr.out]; rfl
                have r4 : wr.cell? ⟨w.heap.size, 4, none⟩ = some (.bool bk) := by rw [Lib.cell_of_heap HEr.out]; rfl
                by_cases hlt : k < eP.length
                · have hkI : (k : Int) < (eP.length : Int) := by omega
                  have hk0 : (0 : Int) ≤ (k : Int) := by omega
                  obtain ⟨pb, po, hpa, hcl⟩ := (HTX.out _ HBr.out).cells hlt
                  have t0 := hcl k hlt
                  subst hpa
                  have HLT := hid hlt
                  have hsz := HSH.out.ps eP[k] (List.getElem_mem hlt)
                  have HNX := hid (show noPk eP[k].data.toList = false → ∀ j (h : j < eP.length), j < k + 1 → noPk eP[j].data.toList = false from fun h0 j h1 h3 => by
                    rcases Nat.lt_or_ge j k with h | h
                    · exact HA.out j h1 h
                    · have : j = k := by omega
                      subst this; exact h0)
                  have HBD := hid (show noPk eP[k].data.toList = true → packErr (bl eP) = 1 from fun h => pk_text HP10.out (any_noPk' hlt h))
                  generalize eP[k] = z at *
                  clear hcl hlt
                  by_cases hdot : z = ⟨#[46]⟩
                  · subst hdot
                    have s0 : ((⟨#[46]⟩ : ByteArray).toList == (⟨#[46]⟩ : ByteArray).toList) = true := by simp
                    have HN2 := hid (HNX.out (by decide))
                    go_wp2_with fail
                    go_roundw
                    case rel => first | exact ⟨k + 1, HLT.out, nr_idx k, HN2, HBr, HEr⟩ | exact ⟨k + 1, HLT.out, nx_idx HLT.out (by omega), HN2, HBr, HEr⟩
                    case measure => first | exact nr_meas HLT.out | exact nx_meas HLT.out (by omega)
                  · have hqd : (z.toList == [46]) = false := by rw [ByteArray.toList_eq]; exact beq_eq_false_iff_ne.2 (fun e => hdot (str_ext (by rw [e])))
                    have hd2 : z.data.toList ≠ [46] := fun e => hdot (str_ext (by rw [e]))
                    have HPE := hid (fun W => pathError_any z W (by omega))
                    by_cases hpe : pathErr z.data.toList = 0
                    · rw [hpe] at HPE
                      have HN2 := hid (HNX.out (by unfold noPk; simp [hpe]))
                      clear hpe hd2 hdot
                      go_wp2_with fail
                      refine (HPE.out _).mono ?_
                      rintro e wv ⟨rfl, hb⟩
                      have HBv := hid (HBr.out.trans (hb.mono HBr.out.size))
                      have HEv := hid ((hb.block _ (lt_of_blk HEr.out)).trans HEr.out)
                      clear hb
                      go_wp2_with fail
                      go_roundw
                      case rel => first | exact ⟨k + 1, HLT.out, nr_idx k, HN2, HBv, HEv⟩ | exact ⟨k + 1, HLT.out, nx_idx HLT.out (by omega), HN2, HBv, HEv⟩
                      case measure => first | exact nr_meas HLT.out | exact nx_meas HLT.out (by omega)
                    · have HX2 := hid (HX.out.trans (HBD.out (by unfold noPk; simp [hpe, hd2])))
                      have hpos : (0 : Int) < ((pathErr z.data.toList : Nat) : Int) := by omega
                      generalize pathErr z.data.toList = pe at *
                      clear hpe hd2 hdot
                      go_wp2_with fail
                      refine (HPE.out _).mono ?_
                      rintro e wv ⟨rfl, hb⟩
                      have HBv := hid (HBr.out.trans (hb.mono HBr.out.size))
                      clear hb
                      go_wp2_with fail
                      go_ret
                      exact ⟨by rw [HX2.out]; rfl, HBv.out⟩
                · have hkI : ¬ (k : Int) < (eP.length : Int) := by omega
                  have HNO := hid (show (bl eP).any noPk = false from any_noPk fun j h => HA.out j h (by omega))
                  clear hlt
                  go_wp2_with fail
                  go_loopw [9] (fun kv wr => ∃ k : Nat, 1 ≤ k ∧ (k ≤ eP.length ∨ k = 1) ∧ kv = .int .i64 k ∧ Hid (∀ j (h : j + 1 < eP.length), j + 1 < k → noLess eP[j] eP[j + 1] = false) ∧ Hid (Below w.heap.size w wr) ∧ Hid (wr.heap[w.heap.size]? = some (.cells #[.string p, .string q, .slice ra eR.length rc, .slice pa eP.length pc, .bool bk] 56 (0, 0)))) (fun kv _ => eP.length - (intOf kv).toNat)
                  case atStart => exact ⟨1, Nat.le_refl _, Or.inr rfl, rfl, hid (fun j _ h => by omega), HBr, HEr⟩
                  case round =>
                    clear r0 r1 r2 r3 r4
                    obtain ⟨k2, hk1, hk2, rfl, HA2, HBs, HEs⟩ := hrel
                    have s0 : wr.cell? ⟨w.heap.size, 0, none⟩ = some (.string p) := by rw [Lib.cell_of_heap HEs.out]; rfl
                    have s1 : wr.cell? ⟨w.heap.size, 1, none⟩ = some (.string q) := by rw [Lib.cell_of_heap HEs.out]; rfl
                    have s2 : wr.cell? ⟨w.heap.size, 2, none⟩ = some (.slice ra eR.length rc) := by rw [Lib.cell_of_heap HEs.out]; rfl
                    have s3 : wr.cell? ⟨w.heap.size, 3, none⟩ = some (.slice pa eP.length pc) := by rw [Lib.cell_of_heap HEs.out]; rfl
                    have s4 : wr.cell? ⟨w.heap.size, 4, none⟩ = some (.bool bk) := by rw [Lib.cell_of_heap HEs.out]; rfl
                    by_cases hlt : k2 < eP.length
                    · obtain ⟨j, rfl⟩ : ∃ j, k2 = j + 1 := ⟨k2 - 1, by omega⟩
                      have hkI2 : ((j + 1 : Nat) : Int) < (eP.length : Int) := by omega
                      have hkI3 : (j : Int) < (eP.length : Int) := by omega
                      have hk00 : (0 : Int) ≤ ((j + 1 : Nat) : Int) := by omega
                      have hk01 : (0 : Int) ≤ (j : Int) := by omega
                      have hk02 : ((j + 1 : Nat) : Int) - 1 = (j : Int) := by omega
                      have hwp : IntKind.i64.wrap (j : Int) = (j : Int) := by rw [IntKind.wrap_i64]; omega
                      have hk03 : (j : Int) + 1 - 1 = (j : Int) := by omega
                      obtain ⟨pb, po, hpa, hcl⟩ := (HTX.out _ HBs.out).cells hlt
                      have t0 := hcl (j + 1) hlt
                      have t1 := hcl j (by omega)
                      subst hpa
                      have HLT := hid hlt
                      have HNX := hid (show noLess eP[j] eP[j + 1] = false → ∀ i (h : i + 1 < eP.length), i + 1 < j + 1 + 1 → noLess eP[i] eP[i + 1] = false from fun h0 i h1 h3 => by
                        rcases Nat.lt_or_ge i j with h | h
                        · exact HA2.out i h1 (by omega)
                        · have : i = j := by omega
                          subst this; exact h0)
                      have HBD := hid (show noLess eP[j] eP[j + 1] = true → packErr (bl eP) = 8 from fun h => pk_fall HP10.out HNO.out (rsT_not hlt h))
                      generalize eP[j + 1] = za at *
                      generalize eP[j] = zb at *
                      have hle := fun X => leq_is za zb X
                      clear hcl hlt
                      cases hnl : noLess zb za
                      · rw [hnl] at hle
                        have HN2 := hid (HNX.out hnl)
                        clear hnl
                        go_wp2_with fail
                        go_quiet (fail)
                        have HBd := hid (below_drawn_of HBs.out nq)
                        have HEd := hid (show (wr.drewN nq).heap[w.heap.size]? = _ from HEs.out)
                        go_wp2_with fail
                        go_roundw
                        case rel => first | exact ⟨j + 1 + 1, by omega, Or.inl HLT.out, nr_idx (j + 1), HN2, HBd, HEd⟩ | exact ⟨j + 1 + 1, by omega, Or.inl HLT.out, nx_idx HLT.out (by omega), HN2, HBd, HEd⟩
                        case measure => first | exact nr_meas HLT.out | exact nx_meas HLT.out (by omega)
                      · rw [hnl] at hle
                        have HX2 := hid (HX.out.trans (HBD.out hnl))
                        clear hnl
                        go_wp2_with fail
                        go_quiet (fail)
                        have HBd := hid (below_drawn_of HBs.out nq)
                        go_wp2_with fail
                        go_ret
                        exact ⟨by rw [HX2.out]; rfl, HBd.out⟩
                    · have hkI2 : ¬ (k2 : Int) < (eP.length : Int) := by omega
                      have HX2 := hid (HX.out.trans (pk_rise HP10.out HNO.out (rsT_of fun j h => HA2.out j h (by omega))))
                      clear hlt
                      go_wp2_with fail
                      go_ret
                      exact ⟨by rw [HX2.out]; rfl, HBs.out⟩
          · have HX := hid (HXR.out.trans (entR_req HF.out hc))
            have hpos : (0 : Int) < ((codeE (reqE p eR) eR.length : Nat) : Int) := by omega
            generalize codeE (reqE p eR) eR.length = cd at *
            clear hc
            go_wp2_with fail
            refine HRQ.out.mono ?_
            rintro e wy ⟨rfl, hb⟩
            have HBy := hid (HBz.out.trans (hb.mono HBz.out.size))
            clear hb
            go_wp2_with fail
            go_ret
            exact ⟨by rw [HX.out]; rfl, HBy.out⟩
  · have HX := hid (entW_bad (o := some (pp, pq)) (e := ((p, q), eR, eP, bk)) h)
    have hpos : (0 : Int) < ((mErr (p, q) : Nat) : Int) := by omega
    generalize mErr (p, q) = z at *
    clear h hme
    go_enter Tryz.func97, Tryz.ntmps97
    go_wp2_with fail
    refine HM.out.mono ?_
    rintro e wz ⟨rfl, hb⟩
    have HBz := hid (HB0.out.trans (hb.mono HB0.out.size))
    clear hb HM
    go_wp2_with fail
    go_ret
    exact ⟨by rw [HX.out]; rfl, HBz.out⟩
theorem entE_any (Q : List Raw) (L : List Ent) (v : Value) (i : Nat) (w : World) (hn : L.length ≤ 1000) (sh : ∀ e, e ∈ L → ShE e) (I : Ixs w v Q L) (h0 : i < L.length) :
    Calls Tryz.prog 97 #[v, .int .i64 (i : Int)] w fun e w' => e = .returned (.int .i64 (entE L i : Nat)) ∧ Below w.heap.size w w' := by
  obtain ⟨a, c, rfl, _, _, h⟩ := id I.es
  obtain ⟨b, o, rfl, _⟩ := h (by intro e; have := I.ln; rw [e] at this; simp at this; omega)
  cases i with
  | zero => exact entE0_any Q L b o c w sh I h0
  | succ k => exact entE1_any Q L b o c w sh I k h0 hn
end Ve
end Go.Proofs.YtmbphngmaglgmaaGreatDoor

/-
  What the document's answer says of an index (IndexFault).
-/
namespace Go.Proofs.YtmbphngmaglgmaaGreatDoor
open Go.RowKit Go.Maps
namespace Ve

theorem put2_below {W w : World} {B b : Nat} {x y : Value} (h : Below B w W) (hb : B ≤ b) : Below B w ((W.setCell ⟨b, 0, none⟩ x).setCell ⟨b, 1, none⟩ y) :=
  (h.setCell (p := ⟨b, 0, none⟩) hb _).setCell (p := ⟨b, 1, none⟩) hb _
theorem nonE_five {Q : List Raw} {R : List Bm} : codeE (nonE Q R) R.length = 0 ∨ codeE (nonE Q R) R.length = 5 := by
  unfold codeE
  cases h : fstE (nonE Q R) R.length with
  | none => exact Or.inl rfl
  | some j =>
    obtain ⟨h1, h2, _⟩ := fstE_of_some h
    show nonE Q R j = 0 ∨ nonE Q R j = 5
    rw [nonE_at h1] at h2 ⊢
    unfold nonW at h2 ⊢
    by_cases h3 : idxOf (isM R[j]) Q < 0
    · rw [if_pos h3]; exact Or.inr rfl
    · rw [if_neg h3]; exact Or.inl rfl
theorem reqE2_bad {Q : List Raw} {L : List Ent} {i k : Nat} (hi : i < L.length) (hk : k < L[i].2.1.length) (h : idxOf (isM L[i].2.1[k]) Q < 0) : reqE2 Q L i = 5 := by
  rw [reqE2_at hi]
  rcases nonE_five (Q := Q) (R := L[i].2.1) with h1 | h1
  · exfalso
    unfold codeE at h1
    cases h2 : fstE (nonE Q L[i].2.1) L[i].2.1.length with
    | none =>
      have := fstE_of_none h2 k hk
      rw [nonE_at hk] at this
      unfold nonW at this
      rw [if_pos h] at this; cases this
    | some j =>
      rw [h2] at h1
      exact (fstE_of_some h2).2.1 h1
  · exact h1
theorem reqE2_good {Q : List Raw} {L : List Ent} {i : Nat} (hi : i < L.length) (h : ∀ k (hk : k < L[i].2.1.length), 0 ≤ idxOf (isM L[i].2.1[k]) Q) : reqE2 Q L i = 0 := by
  rw [reqE2_at hi]
  exact codeE_none (fstE_none fun j hj => by
    rw [nonE_at hj]
    unfold nonW
    rw [if_neg (Int.not_lt.2 (h j hj))])
set_option maxRecDepth 100000 in
set_option maxHeartbeats 8000000 in
theorem iFault_some (Q : List Raw) (L : List Ent) (b o c : Nat) (w : World) (hn : L.length ≤ 1000) (sh : ∀ e, e ∈ L → ShE e) (I : Ixs w (.slice (some ⟨b, o, none⟩) Q.length c) Q L) (h0 : 0 < L.length) :
    Calls Tryz.prog 47 #[.slice (some ⟨b, o, none⟩) Q.length c] w fun e w' => e = .returned (faultV (chk Q L)) ∧ Below w.heap.size w w' := by
  have HLN := hid I.ln
  have hqn : Q.length ≤ 1000 := by rw [I.ln]; exact hn
  have HB0 := hid ((Below.refl w.heap.size w).alloc (Nat.le_refl _) (.cells #[.int .i64 0, .int .i64 0] 40))
  have HE0 := hid (heap_new w (.cells #[.int .i64 0, .int .i64 0] 40))
  by_cases h1 : 100 < L.length
  · have q1 : (100 : Int) < (Q.length : Int) := by have := HLN.out; omega
    have HBR := hid (fun W => rbare_any 7 W)
    have HX := hid (chk_full (Q := Q) h1)
    clear I sh h1
    go_enter Tryz.func47, Tryz.ntmps47
    go_wp2_with fail
    refine (HBR.out _).mono ?_
    rintro e w1 ⟨rfl, hb⟩
    have HB1 := hid (HB0.out.trans (hb.mono HB0.out.size))
    have HE1 := hid ((hb.block _ (lt_of_blk HE0.out)).trans HE0.out)
    clear hb
    have s0 : w1.cell? ⟨w.heap.size, 0, none⟩ = some (.int .i64 0) := by rw [Lib.cell_of_heap HE1.out]; rfl
    have s1 : w1.cell? ⟨w.heap.size, 1, none⟩ = some (.int .i64 0) := by rw [Lib.cell_of_heap HE1.out]; rfl
    have tf := fun o => Lib.frozen_of_heap HE1.out o
    go_wp2_with fail
    refine bodyPost_ret (v := .agg #[.int .i64 7, .int .i64 (-1)]) (by simp [results, Tryz.results47, go_sem, s0, s1]) rfl ⟨by rw [HX.out]; rfl, ?_⟩
    exact put2_below HB1.out (Nat.le_refl _)
  · have q1 : ¬ (100 : Int) < (Q.length : Int) := by have := HLN.out; omega
    have HEN := hid (fun i (hi : i < L.length) W (h : Below w.heap.size w W) => entE_any Q L _ i W hn sh (I.below h) hi)
    have HFO := hid (fun m W (h : Below w.heap.size w W) => findOf_any Q m _ W (by omega) (by have := HLN.out; omega) (I.below h).es)
    have HFN := hid (fun W => fine_any W)
    have HI := hid I
    have HSZ := hid sh
    have H1 := hid h1
    clear I sh h1 hn h0
    go_enter Tryz.func47, Tryz.ntmps47
    go_wp2_with fail
    go_loopw [3] (fun iv wr => ∃ i : Nat, i ≤ Q.length ∧ iv = .int .i64 i ∧ Hid (∀ j, j < i → entE L j = 0) ∧ Hid (Below w.heap.size w wr) ∧ Hid (wr.heap[w.heap.size]? = some (.cells #[.int .i64 0, .int .i64 0] 40 (0, 0)))) (fun iv _ => Q.length - (intOf iv).toNat)
    case atStart => exact ⟨0, Nat.zero_le _, rfl, hid (fun j h => absurd h (Nat.not_lt_zero _)), HB0, HE0⟩
    case round =>
      obtain ⟨i, hi, rfl, HZ, HBr, HEr⟩ := hrel
      by_cases hlt : i < Q.length
      · have hiI : (i : Int) < (Q.length : Int) := by omega
        have HLT := hid hlt
        have hil : i < L.length := by rw [← HLN.out]; exact hlt
        have HE := hid (HEN.out i hil _ HBr.out)
        have HNX := hid (show entE L i = 0 → ∀ j, j < i + 1 → entE L j = 0 from fun h => zero_next HZ.out h)
        have HBD := hid (show entE L i ≠ 0 → chk Q L = (entE L i, some i) from fun h => chk_each H1.out (fstE_some HZ.out h hil))
        generalize entE L i = z at *
        clear hlt hil
        by_cases hz : z = 0
        · subst hz
          have HN2 := hid (HNX.out rfl)
          go_wp2_with fail
          refine HE.out.mono ?_
          rintro e w1 ⟨rfl, hb⟩
          have HB1 := hid (HBr.out.trans (hb.mono HBr.out.size))
          have HE1 := hid ((hb.block _ (lt_of_blk HEr.out)).trans HEr.out)
          clear hb
          go_wp2_with fail
          go_roundw
          case rel => first | exact ⟨i + 1, HLT.out, nr_idx i, HN2, HB1, HE1⟩ | exact ⟨i + 1, HLT.out, nx_idx HLT.out (by omega), HN2, HB1, HE1⟩
          case measure => first | exact nr_meas HLT.out | exact nx_meas HLT.out (by omega)
        · have HX := hid (HBD.out hz)
          have hpos : (0 : Int) < (z : Int) := by omega
          clear hz
          go_wp2_with fail
          refine HE.out.mono ?_
          rintro e w1 ⟨rfl, hb⟩
          have HB1 := hid (HBr.out.trans (hb.mono HBr.out.size))
          have HE1 := hid ((hb.block _ (lt_of_blk HEr.out)).trans HEr.out)
          clear hb
          have s0 : w1.cell? ⟨w.heap.size, 0, none⟩ = some (.int .i64 0) := by rw [Lib.cell_of_heap HE1.out]; rfl
          have s1 : w1.cell? ⟨w.heap.size, 1, none⟩ = some (.int .i64 0) := by rw [Lib.cell_of_heap HE1.out]; rfl
          have tf := fun o => Lib.frozen_of_heap HE1.out o
          go_wp2_with fail
          refine bodyPost_ret (v := .agg #[.int .i64 (z : Int), .int .i64 (i : Int)]) (by simp [results, Tryz.results47, go_sem, s0, s1]) rfl ⟨by rw [HX.out]; rfl, ?_⟩
          exact put2_below HB1.out (Nat.le_refl _)
      · have hiI : ¬ (i : Int) < (Q.length : Int) := by omega
        have HNE := hid (show fstE (entE L) L.length = none from fstE_none fun j hj => HZ.out j (by have := HLN.out; omega))
        have HX0 := hid (chk_reqs (Q := Q) H1.out HNE.out)
        clear hlt HZ HEN
        go_wp2_with fail
        go_loopw [5] (fun iv wr => ∃ i : Nat, i ≤ Q.length ∧ iv = .int .i64 i ∧ Hid (∀ j, j < i → reqE2 Q L j = 0) ∧ Hid (Below w.heap.size w wr) ∧ Hid (wr.heap[w.heap.size]? = some (.cells #[.int .i64 0, .int .i64 0] 40 (0, 0)))) (fun iv _ => Q.length - (intOf iv).toNat)
        case atStart => exact ⟨0, Nat.zero_le _, rfl, hid (fun j h => absurd h (Nat.not_lt_zero _)), HBr, HEr⟩
        case round =>
          obtain ⟨i2, hi2, rfl, HZ2, HB2, HE2⟩ := hrel
          by_cases hqi : i2 < Q.length
          · have hlt : i2 < L.length := by rw [← HLN.out]; exact hqi
            have hiI2 : (i2 : Int) < (Q.length : Int) := by omega
            have hi00 : (0 : Int) ≤ (i2 : Int) := by omega
            have HLI := hid hqi
            have HCE := hid (fun W (h : Below w.heap.size w W) => (es_all (HI.out.below h).es hqi).2.2.2.1)
            have HMR := hid (fun W (h : Below w.heap.size w W) => ((HI.out.below h).ok i2 hqi hlt).rq)
            have HNX := hid (show reqE2 Q L i2 = 0 → ∀ j, j < i2 + 1 → reqE2 Q L j = 0 from fun h => zero_next HZ2.out h)
            have HGD := hid (reqE2_good (Q := Q) hlt)
            have HBD := hid (fun k (hk : k < L[i2].2.1.length) h => show chk Q L = (5, some i2) by
              have h5 := reqE2_bad (Q := Q) hlt hk h
              have hs := fstE_some HZ2.out (by rw [h5]; decide) hlt
              rw [HX0.out, hs, codeE_some hs, h5])
            have hRl := (HSZ.out L[i2] (List.getElem_mem hlt)).rn
            generalize (L[i2]'hlt).2.1 = R at *
            generalize (Q[i2]'hqi).2.1 = rv at *
            obtain ⟨ra, rc, hrv, -⟩ := HMR.out w (Below.refl _ _)
            subst hrv
            clear hlt hqi
            go_wp2_with fail
            go_loopw [6] (fun kv wr => ∃ k : Nat, k ≤ R.length ∧ kv = .int .i64 k ∧ Hid (∀ j (h : j < R.length), j < k → 0 ≤ idxOf (isM R[j]) Q) ∧ Hid (Below w.heap.size w wr) ∧ Hid (wr.heap[w.heap.size]? = some (.cells #[.int .i64 0, .int .i64 0] 40 (0, 0)))) (fun kv _ => R.length - (intOf kv).toNat)
            case atStart => exact ⟨0, Nat.zero_le _, rfl, hid (fun j _ h => absurd h (Nat.not_lt_zero _)), HB2, HE2⟩
            case round =>
              obtain ⟨k, hk, rfl, HZ3, HB3, HE3⟩ := hrel
              have x2 := HCE.out _ HB3.out
              by_cases hlk : k < R.length
              · have hkI : (k : Int) < (R.length : Int) := by omega
                have hk0 : (0 : Int) ≤ (k : Int) := by omega
                obtain ⟨xb, xo, hxa, y0, y1⟩ := (HMR.out _ HB3.out).cells hlk
                subst hxa
                have HLK := hid hlk
                have HF := hid (HFO.out R[k] _ HB3.out)
                have HNK := hid (show 0 ≤ idxOf (isM R[k]) Q → ∀ j (h : j < R.length), j < k + 1 → 0 ≤ idxOf (isM R[j]) Q from fun h0 j h1 h3 => by
                  rcases Nat.lt_or_ge j k with h | h
                  · exact HZ3.out j h1 h
                  · have : j = k := by omega
                    subst this; exact h0)
                have HBK := hid (HBD.out k hlk)
                generalize R[k] = x at *
                obtain ⟨x1, x2'⟩ := x
                generalize idxOf (isM (x1, x2')) Q = ix at *
                clear hlk
                by_cases hix : ix < 0
                · have HX := hid (HBK.out hix)
                  go_wp2_with fail
                  refine HF.out.mono ?_
                  rintro e w1 ⟨rfl, hb⟩
                  have HB4 := hid (HB3.out.trans (hb.mono HB3.out.size))
                  have HE4 := hid ((hb.block _ (lt_of_blk HE3.out)).trans HE3.out)
                  clear hb
                  have s0 : w1.cell? ⟨w.heap.size, 0, none⟩ = some (.int .i64 0) := by rw [Lib.cell_of_heap HE4.out]; rfl
                  have s1 : w1.cell? ⟨w.heap.size, 1, none⟩ = some (.int .i64 0) := by rw [Lib.cell_of_heap HE4.out]; rfl
                  have tf := fun o => Lib.frozen_of_heap HE4.out o
                  go_wp2_with fail
                  refine bodyPost_ret (v := .agg #[.int .i64 5, .int .i64 (i2 : Int)]) (by simp [results, Tryz.results47, go_sem, s0, s1]) rfl ⟨by rw [HX.out]; rfl, ?_⟩
                  exact put2_below HB4.out (Nat.le_refl _)
                · have HN2 := hid (HNK.out (Int.not_lt.1 hix))
                  go_wp2_with fail
                  refine HF.out.mono ?_
                  rintro e w1 ⟨rfl, hb⟩
                  have HB4 := hid (HB3.out.trans (hb.mono HB3.out.size))
                  have HE4 := hid ((hb.block _ (lt_of_blk HE3.out)).trans HE3.out)
                  clear hb
                  go_wp2_with fail
                  go_roundw
                  case rel => first | exact ⟨k + 1, HLK.out, nr_idx k, HN2, HB4, HE4⟩ | exact ⟨k + 1, HLK.out, nx_idx HLK.out hRl, HN2, HB4, HE4⟩
                  case measure => first | exact nr_meas HLK.out | exact nx_meas HLK.out hRl
              · have hkI : ¬ (k : Int) < (R.length : Int) := by omega
                have HN2 := hid (HNX.out (HGD.out (fun j h => HZ3.out j h (by omega))))
                clear hlk
                go_wp2_with fail
                go_roundw
                case rel => first | exact ⟨i2 + 1, HLI.out, nr_idx i2, HN2, HB3, HE3⟩ | exact ⟨i2 + 1, HLI.out, nx_idx HLI.out (by omega), HN2, HB3, HE3⟩
                case measure => first | exact nr_meas HLI.out | exact nx_meas HLI.out (by omega)
          · have hiI2 : ¬ (i2 : Int) < (Q.length : Int) := by omega
            have HX := hid (show chk Q L = (0, none) by
              have hs := fstE_none (E := reqE2 Q L) (n := L.length) (fun j hj => HZ2.out j (by have := HLN.out; omega))
              rw [HX0.out, hs, codeE_none hs])
            clear hqi
            go_wp2_with fail
            refine (HFN.out _).mono ?_
            rintro e w1 ⟨rfl, hb⟩
            have HB4 := hid (HB2.out.trans (hb.mono HB2.out.size))
            have HE4 := hid ((hb.block _ (lt_of_blk HE2.out)).trans HE2.out)
            clear hb
            have s0 : w1.cell? ⟨w.heap.size, 0, none⟩ = some (.int .i64 0) := by rw [Lib.cell_of_heap HE4.out]; rfl
            have s1 : w1.cell? ⟨w.heap.size, 1, none⟩ = some (.int .i64 0) := by rw [Lib.cell_of_heap HE4.out]; rfl
            have tf := fun o => Lib.frozen_of_heap HE4.out o
            go_wp2_with fail
            refine bodyPost_ret (v := .agg #[.int .i64 0, .int .i64 (-1)]) (by simp [results, Tryz.results47, go_sem, s0, s1]) rfl ⟨by rw [HX.out]; rfl, ?_⟩
            exact put2_below HB4.out (Nat.le_refl _)
theorem iFault_none (a : Option Addr) (c : Nat) (w : World) : Calls Tryz.prog 47 #[.slice a 0 c] w fun e w' => e = .returned (faultV (0, none)) ∧ Below w.heap.size w w' := by
  have HB0 := hid ((Below.refl w.heap.size w).alloc (Nat.le_refl _) (.cells #[.int .i64 0, .int .i64 0] 40))
  have HE0 := hid (heap_new w (.cells #[.int .i64 0, .int .i64 0] 40))
  have HFN := hid (fun W => fine_any W)
  go_enter Tryz.func47, Tryz.ntmps47
  go_wp2_with fail
  go_loopw [3] (fun i wr => i = .int .i64 0 ∧ Hid (wr = w.alloc (.cells #[.int .i64 0, .int .i64 0] 40))) (fun i _ => 0)
  case atStart => exact ⟨rfl, hid rfl⟩
  case round =>
    obtain ⟨rfl, HW⟩ := hrel
    obtain rfl := HW.out
    clear HW
    go_wp2_with fail
    go_loopw [5] (fun i wr => i = .int .i64 0 ∧ Hid (wr = w.alloc (.cells #[.int .i64 0, .int .i64 0] 40))) (fun i _ => 0)
    case atStart => exact ⟨rfl, hid rfl⟩
    case round =>
      obtain ⟨rfl, HW⟩ := hrel
      obtain rfl := HW.out
      clear HW
      go_wp2_with fail
      refine (HFN.out _).mono ?_
      rintro e w1 ⟨rfl, hb⟩
      have HB4 := hid (HB0.out.trans (hb.mono HB0.out.size))
      have HE4 := hid ((hb.block _ (lt_of_blk HE0.out)).trans HE0.out)
      clear hb
      have s0 : w1.cell? ⟨w.heap.size, 0, none⟩ = some (.int .i64 0) := by rw [Lib.cell_of_heap HE4.out]; rfl
      have s1 : w1.cell? ⟨w.heap.size, 1, none⟩ = some (.int .i64 0) := by rw [Lib.cell_of_heap HE4.out]; rfl
      have tf := fun o => Lib.frozen_of_heap HE4.out o
      go_wp2_with fail
      refine bodyPost_ret (v := .agg #[.int .i64 0, .int .i64 (-1)]) (by simp [results, Tryz.results47, go_sem, s0, s1]) rfl ⟨rfl, ?_⟩
      exact put2_below HB4.out (Nat.le_refl _)
/-- pewholderref1.IndexFault. -/
theorem iFault_any (Q : List Raw) (L : List Ent) (v : Value) (w : World) (hn : L.length ≤ 1000) (sh : ∀ e, e ∈ L → ShE e) (I : Ixs w v Q L) :
    Calls Tryz.prog 47 #[v] w fun e w' => e = .returned (faultV (chk Q L)) ∧ Below w.heap.size w w' := by
  obtain ⟨a, c, rfl, _, _, h⟩ := id I.es
  by_cases hQ : Q = []
  · subst hQ
    have hl : L = [] := List.length_eq_zero_iff.1 I.ln.symm
    subst hl
    exact iFault_none a c w
  · obtain ⟨b, o, rfl, _⟩ := h hQ
    exact iFault_some Q L b o c w hn sh I (by rw [← I.ln]; exact List.length_pos_iff.2 hQ)
end Ve
end Go.Proofs.YtmbphngmaglgmaaGreatDoor

/-
  What plain.Code answers of an error with its own number and place; the numbers of what an index' check tells.
-/
namespace Go.Proofs.YtmbphngmaglgmaaGreatDoor
open Go.RowKit Go.Maps
namespace Ve

theorem code_at2 (A : Nat → Addr) (x : Value) (c : Nat) (o : Option Nat) (w : World) (S : Er.Sen w A) (h : ErrAt w A x c o) (hc : c ≤ 10) :
    Calls Tryz.prog 39 #[x] w fun e w' => e = .returned (.tuple #[.int .i64 (c : Nat), .int .i64 (atOf o)]) ∧ Below w.heap.size w w' := by
  cases o with
  | none =>
    have h : x = errA A c := h
    subst h
    cases c with
    | zero => exact (Er.code_nil w).mono fun e w' h => ⟨h.1, by rw [h.2]; exact Below.refl _ _⟩
    | succ j => exact Er.code_sen A j w S (by omega)
  | some i =>
    obtain ⟨h0, b, rfl, h1, h2⟩ := h
    obtain ⟨j, rfl⟩ : ∃ j, c = j + 1 := ⟨c - 1, by omega⟩
    rw [errA_if A h0] at h2
    exact Er.code_fault b 0 i A j w S (by omega) (lt_of_cell h1) h1 h2
theorem modErr_err (p v : List UInt8) : modErr p v = 0 ∨ modErr p v = 1 ∨ modErr p v = 2 ∨ modErr p v = 4 := by
  unfold modErr
  by_cases h0 : pathErr p = 0
  · rw [if_pos h0]
    by_cases h1 : verErr v = 0
    · rw [if_pos h1]
      cases fitsB (nAt v 0) (pathN p)
      · right; right; right; rfl
      · left; rfl
    · rw [if_neg h1]
      rcases verErr_err v with h | h | h <;> omega
  · rw [if_neg h0]; exact pathErr_err p
theorem mErr_le (m : Bm) : mErr m ≤ 10 := by
  have := modErr_err m.1.data.toList m.2.data.toList
  unfold mErr; omega
theorem reqE_le (own : ByteArray) (L : List Bm) (i : Nat) : reqE own L i ≤ 10 := by
  unfold reqE
  split
  · omega
  · rename_i m _
    have := mErr_le m
    unfold reqW
    repeat' split
    all_goals omega
theorem codeE_le {E : Nat → Nat} {n : Nat} (h : ∀ i, E i ≤ 10) : codeE E n ≤ 10 := by
  cases h1 : fstE E n with
  | none => unfold codeE; rw [h1]; simp
  | some j => rw [codeE_some h1]; exact h j
theorem packErr_le (Z : List (List UInt8)) : packErr Z ≤ 10 := by
  unfold packErr
  repeat' split
  all_goals omega
theorem entR_le (e : Ent) : entR e ≤ 10 := by
  unfold entR
  repeat' split
  all_goals first | omega | exact codeE_le (reqE_le _ _) | exact packErr_le _
theorem entE_le (L : List Ent) (i : Nat) : entE L i ≤ 10 := by
  unfold entE
  split
  · omega
  · unfold entW
    repeat' split
    all_goals first | omega | exact mErr_le _ | exact entR_le _
theorem nonW_le (Q : List Raw) (m : Bm) : nonW Q m ≤ 10 := by
  unfold nonW
  split <;> omega
theorem nonE_le (Q : List Raw) (R : List Bm) (i : Nat) : nonE Q R i ≤ 10 := by
  unfold nonE
  split
  · omega
  · exact nonW_le _ _
theorem reqE2_le (Q : List Raw) (L : List Ent) (i : Nat) : reqE2 Q L i ≤ 10 := by
  unfold reqE2
  split
  · omega
  · exact codeE_le (nonE_le _ _)
theorem chk_le (Q : List Raw) (L : List Ent) : (chk Q L).1 ≤ 10 := by
  unfold chk
  repeat' split
  all_goals first | (simp only; omega) | exact entE_le _ _ | exact codeE_le (reqE2_le _ _)
end Ve
end Go.Proofs.YtmbphngmaglgmaaGreatDoor

/-
  What PickOf of the document's answer says.
-/
namespace Go.Proofs.YtmbphngmaglgmaaGreatDoor
open Go.RowKit Go.Maps
namespace Ve

theorem bxQ {W : World} {g : Nat} {x y : Value} {T : TypeId} (h : W.heap[g]? = some (.cells #[x, y] T (0, 0))) : W.cell? ⟨g, 0, none⟩ = some x ∧ W.cell? ⟨g, 1, none⟩ = some y ∧ ∀ o, W.frozen? ⟨g, o, none⟩ = false :=
  ⟨by rw [Lib.cell_of_heap h]; rfl, by rw [Lib.cell_of_heap h]; rfl, fun o => Lib.frozen_of_heap h o⟩
theorem likedG_any (Q : List Raw) (t : ByteArray) (b : Bool) (X : List ByteArray) (v u : Value) (w : World) (hL : Q.length ≤ 1000) (hX : X.length ≤ 1000000) (hok : VerOk Q t X) (hv : EsAt w v Q) (hu : TxAt w u X) :
    Calls Tryz.prog 52 #[v, .string t, u, .bool b] w fun e w' => e = .returned (.string (likG Q t b X)) ∧ Below w.heap.size w w' := by
  cases b
  · exact liked_any Q t X v u w hL hX hok hv hu
  · exact likedL_any Q t X v u w hL hX hok hv hu
set_option maxRecDepth 100000 in
set_option maxHeartbeats 2000000 in
theorem rpick_q (Q : List Raw) (t q now : ByteArray) (va : Option Addr) (vc : Nat) (w : World) (hq : q.size < 999999) (h0 : qErr q ≠ 0) :
    Calls Tryz.prog 18 #[.slice va Q.length vc, .string t, .string q, .string now] w fun e w' => e = .returned (.tuple #[.string bE, faultV (qErr q, none)]) ∧ Below w.heap.size w w' := by
  have HB0 := hid ((Below.refl w.heap.size w).alloc (Nat.le_refl _) (.cells #[.int .i64 0, .int .i64 0] 40))
  have HE0 := hid (heap_new w (.cells #[.int .i64 0, .int .i64 0] 40))
  have HQE := hid (fun W => rqerr_any q W hq)
  have HBA := hid (fun (n : Int) W => rbare_any n W)
  have hpos : (0 : Int) < ((qErr q : Nat) : Int) := by omega
  unfold faultV
  simp only
  generalize ((qErr q : Nat) : Int) = k at *
  clear h0
  go_enter Tryz.func18, Tryz.ntmps18
  go_wp2_with fail
  refine (HQE.out _).mono ?_
  rintro e w1 ⟨rfl, hb⟩
  have HB1 := hid (HB0.out.trans (hb.mono HB0.out.size))
  have HE1 := hid ((hb.block _ (lt_of_blk HE0.out)).trans HE0.out)
  clear hb
  go_wp2_with fail
  refine (HBA.out _ _).mono ?_
  rintro e w2 ⟨rfl, hb⟩
  have HB2 := hid (HB1.out.trans (hb.mono HB1.out.size))
  have HE2 := hid ((hb.block _ (lt_of_blk HE1.out)).trans HE1.out)
  clear hb
  obtain ⟨s0, s1, tf⟩ := bxQ HE2.out
  go_wp2_with fail
  refine bodyPost_ret (v := .tuple #[.string ⟨#[]⟩, .agg #[.int .i64 k, .int .i64 (-1)]]) (by simp [results, Tryz.results18, go_sem, s0, s1]) rfl ⟨rfl, ?_⟩
  exact put2_below HB2.out (Nat.le_refl _)
set_option maxRecDepth 100000 in
set_option maxHeartbeats 2000000 in
theorem rpick_c (Q : List Raw) (L : List Ent) (t q now : ByteArray) (v : Value) (w : World) (hq : q.size < 999999) (hn : L.length ≤ 1000) (sh : ∀ e, e ∈ L → ShE e) (I : Ixs w v Q L) (h0 : qErr q = 0) (hc : (chk Q L).1 ≠ 0) :
    Calls Tryz.prog 18 #[v, .string t, .string q, .string now] w fun e w' => e = .returned (.tuple #[.string bE, faultV (chk Q L)]) ∧ Below w.heap.size w w' := by
  have HB0 := hid ((Below.refl w.heap.size w).alloc (Nat.le_refl _) (.cells #[.int .i64 0, .int .i64 0] 40))
  have HE0 := hid (heap_new w (.cells #[.int .i64 0, .int .i64 0] 40))
  have HQE := hid (fun W => rqerr_any q W hq)
  rw [h0] at HQE
  have HIF := hid (fun W (h : Below w.heap.size w W) => iFault_any Q L v W hn sh (I.below h))
  obtain ⟨va, vc, hv1, -⟩ := id I.es
  subst hv1
  obtain ⟨cc, oo, hco⟩ : ∃ cc oo, chk Q L = (cc, oo) := ⟨_, _, rfl⟩
  rw [hco] at HIF hc ⊢
  unfold faultV at HIF ⊢
  simp only at HIF hc ⊢
  generalize atOf oo = ao at *
  have hpos : (0 : Int) < (cc : Int) := by omega
  clear I sh h0 hco hc
  go_enter Tryz.func18, Tryz.ntmps18
  go_wp2_with fail
  refine (HQE.out _).mono ?_
  rintro e w1 ⟨rfl, hb⟩
  have HB1 := hid (HB0.out.trans (hb.mono HB0.out.size))
  have HE1 := hid ((hb.block _ (lt_of_blk HE0.out)).trans HE0.out)
  clear hb
  go_wp2_with fail
  refine (HIF.out _ HB1.out).mono ?_
  rintro e w2 ⟨rfl, hb⟩
  have HBa := hid (HB1.out.trans (hb.mono HB1.out.size))
  have HEa := hid ((hb.block _ (lt_of_blk HE1.out)).trans HE1.out)
  clear hb
  have HB2 := hid (HBa.out.alloc HBa.out.size (.cells #[.int .i64 (cc : Int), .int .i64 ao] 40))
  have HE2 := hid (heap_old w2 (.cells #[.int .i64 (cc : Int), .int .i64 ao] 40) HEa.out)
  have HF2 := hid (heap_new w2 (.cells #[.int .i64 (cc : Int), .int .i64 ao] 40))
  have hlt := lt_of_blk HEa.out
  have hne : ¬ w2.heap.size = w.heap.size := by omega
  have hne2 : ¬ w.heap.size = w2.heap.size := by omega
  obtain ⟨f0, f1, _⟩ := bxQ HF2.out
  go_wp2_with fail
  generalize w2.alloc (.cells #[.int .i64 (cc : Int), .int .i64 ao] 40) = w3 at *
  obtain ⟨s0, s1, tf⟩ := bxQ HE2.out
  go_region_with fail
  all_goals
    go_wp2_with fail
    refine bodyPost_ret (v := .tuple #[.string ⟨#[]⟩, .agg #[.int .i64 (cc : Int), .int .i64 ao]]) (by simp [results, Tryz.results18, go_sem, s0, s1]) rfl ⟨rfl, ?_⟩
    exact put2_below (below_drawn_of HB2.out 1) (Nat.le_refl _)
set_option maxRecDepth 100000 in
set_option maxHeartbeats 2000000 in
theorem rpick_n (Q : List Raw) (L : List Ent) (t now : ByteArray) (v : Value) (w : World) (hn : L.length ≤ 1000) (sh : ∀ e, e ∈ L → ShE e) (I : Ixs w v Q L) (hc : (chk Q L).1 = 0) :
    Calls Tryz.prog 18 #[v, .string t, .string bNone, .string now] w fun e w' => e = .returned (.tuple #[.string bNone, faultV (0, none)]) ∧ Below w.heap.size w w' := by
  have HB0 := hid ((Below.refl w.heap.size w).alloc (Nat.le_refl _) (.cells #[.int .i64 0, .int .i64 0] 40))
  have HE0 := hid (heap_new w (.cells #[.int .i64 0, .int .i64 0] 40))
  have HQE := hid (fun W => rqerr_any bNone W (by decide))
  rw [qErr_word (show isWd bNone = true by unfold isWd; simp)] at HQE
  have HIF := hid (fun W (h : Below w.heap.size w W) => iFault_any Q L v W hn sh (I.below h))
  have HFN := hid (fun W => fine_any W)
  obtain ⟨va, vc, hv1, -⟩ := id I.es
  subst hv1
  obtain ⟨cc, oo, hco⟩ : ∃ cc oo, chk Q L = (cc, oo) := ⟨_, _, rfl⟩
  rw [hco] at HIF hc
  simp only at hc
  subst hc
  unfold faultV at HIF
  simp only at HIF
  generalize atOf oo = ao at *
  clear I sh hco
  unfold bNone at HQE
  show Calls Tryz.prog 18 #[.slice va Q.length vc, .string t, .string ⟨#[110, 111, 110, 101]⟩, .string now] w fun e w' => e = .returned (.tuple #[.string ⟨#[110, 111, 110, 101]⟩, .agg #[.int .i64 0, .int .i64 (-1)]]) ∧ Below w.heap.size w w'
  go_enter Tryz.func18, Tryz.ntmps18
  go_wp2_with fail
  refine (HQE.out _).mono ?_
  rintro e w1 ⟨rfl, hb⟩
  have HB1 := hid (HB0.out.trans (hb.mono HB0.out.size))
  have HE1 := hid ((hb.block _ (lt_of_blk HE0.out)).trans HE0.out)
  clear hb
  go_wp2_with fail
  refine (HIF.out _ HB1.out).mono ?_
  rintro e w2 ⟨rfl, hb⟩
  have HBa := hid (HB1.out.trans (hb.mono HB1.out.size))
  have HEa := hid ((hb.block _ (lt_of_blk HE1.out)).trans HE1.out)
  clear hb
  have HB2 := hid (HBa.out.alloc HBa.out.size (.cells #[.int .i64 0, .int .i64 ao] 40))
  have HE2 := hid (heap_old w2 (.cells #[.int .i64 0, .int .i64 ao] 40) HEa.out)
  have HF2 := hid (heap_new w2 (.cells #[.int .i64 0, .int .i64 ao] 40))
  have hlt := lt_of_blk HEa.out
  have hne : ¬ w2.heap.size = w.heap.size := by omega
  have hne2 : ¬ w.heap.size = w2.heap.size := by omega
  obtain ⟨f0, f1, _⟩ := bxQ HF2.out
  go_wp2_with fail
  generalize w2.alloc (.cells #[.int .i64 0, .int .i64 ao] 40) = w3 at *
  refine (HFN.out _).mono ?_
  rintro e w4 ⟨rfl, hb⟩
  have HB4 := hid (HB2.out.trans (hb.mono HB2.out.size))
  have HE4 := hid ((hb.block _ (lt_of_blk HE2.out)).trans HE2.out)
  clear hb
  obtain ⟨s0, s1, tf⟩ := bxQ HE4.out
  go_wp2_with fail
  refine bodyPost_ret (v := .tuple #[.string ⟨#[110, 111, 110, 101]⟩, .agg #[.int .i64 0, .int .i64 (-1)]]) (by simp [results, Tryz.results18, go_sem, s0, s1]) rfl ⟨rfl, ?_⟩
  exact put2_below HB4.out (Nat.le_refl _)
end Ve
end Go.Proofs.YtmbphngmaglgmaaGreatDoor

/-
  What PickOf of the document's answer says, where it looks.
-/
namespace Go.Proofs.YtmbphngmaglgmaaGreatDoor
open Go.RowKit Go.Maps
namespace Ve

/-- VerOf, its two ways as one. -/
theorem verOf_both (s : ByteArray) (w : World) (hs : s.size < 4294967281) :
    Calls Tryz.prog 20 #[.string s] w fun e w' => ∃ (n0 n1 n2 : Int) (sa : Option Addr) (k cap : Nat), e = .returned (.tuple #[.agg #[.int .i64 n0, .int .i64 n1, .int .i64 n2, .slice sa k cap], .int .i64 ((verErr s.data.toList : Nat) : Int)]) ∧ (verErr s.data.toList = 0 → n0 = nAt s.data.toList 0 ∧ n1 = nAt s.data.toList 1) ∧ Below w.heap.size w w' := by
  refine (verOf_any s w hs).mono ?_
  rintro e w' ⟨⟨h0, rfl⟩ | ⟨h0, sa, cap, X2, rfl, -⟩, hb⟩
  · exact ⟨_, _, _, _, _, _, rfl, fun h => absurd h h0, hb⟩
  · exact ⟨_, _, _, _, _, _, by rw [h0]; rfl, fun _ => ⟨rfl, rfl⟩, hb⟩
theorem likG_size {Q : List Raw} {t : ByteArray} {b : Bool} {X : List ByteArray} (h : VerOk Q t X) : (likG Q t b X).size < 999999 := by
  have hz : (⟨#[]⟩ : ByteArray).size < 999999 := by decide
  unfold likG
  split
  · by_cases h0 : X.length = 0
    · rw [(likNL_is (Q := Q) (t := t) X.length (Nat.le_refl _)).z h0]; exact hz
    · obtain ⟨j, hj, _, e, _⟩ := (likNL_is (Q := Q) (t := t) X.length (Nat.le_refl _)).p (by omega)
      rw [e]
      obtain ⟨k, hk, _, _, _, h1, _⟩ := h.at_ j hj
      exact h1
  · by_cases h0 : X.length = 0
    · rw [(likN_is (Q := Q) (t := t) X.length (Nat.le_refl _)).z h0]; exact hz
    · obtain ⟨j, hj, _, e, _⟩ := (likN_is (Q := Q) (t := t) X.length (Nat.le_refl _)).p (by omega)
      rw [e]
      obtain ⟨k, hk, _, _, _, h1, _⟩ := h.at_ j hj
      exact h1
/-- What the rounds read. -/
structure Pk (w W : World) (u : Value) (X : List ByteArray) (vb : Nat) (n0 n1 : Int) : Prop where
  bl : Below w.heap.size w W
  tx : TxAt W u X
  c0 : W.cell? ⟨vb, 0, none⟩ = some (.int .i64 n0)
  c1 : W.cell? ⟨vb, 1, none⟩ = some (.int .i64 n1)
theorem Pk.below {w W W' : World} {u : Value} {X : List ByteArray} {vb : Nat} {n0 n1 : Int} (h : Pk w W u X vb n0 n1) (hb : Below W.heap.size W W') : Pk w W' u X vb n0 n1 :=
  ⟨h.bl.trans (hb.mono h.bl.size), h.tx.below hb, cell_below hb h.c0, cell_below hb h.c1⟩
theorem Pk.from {w W : World} {u : Value} {X : List ByteArray} {vb : Nat} {n0 n1 : Int} (h : Pk w w u X vb n0 n1) (hb : Below w.heap.size w W) : Pk w W u X vb n0 n1 :=
  ⟨hb, h.tx.below hb, cell_below hb h.c0, cell_below hb h.c1⟩
theorem dec_beq (a b : Int) : decide (a = b) = (a == b) := by
  by_cases h : a = b
  · subst h; simp
  · rw [decide_eq_false h]; exact (beq_eq_false_iff_ne.2 h).symm
set_option maxRecDepth 100000 in
set_option maxHeartbeats 8000000 in
theorem rpick_m (Q : List Raw) (L : List Ent) (t q now : ByteArray) (v : Value) (w : World) (hq : q.size < 999999) (hnow : now.size < 999999) (hn : L.length ≤ 1000) (sh : ∀ e, e ∈ L → ShE e) (hz : ∀ r, r ∈ Q → r.1.1.size ≤ 80 ∧ r.1.2.size ≤ 80) (I : Ixs w v Q L) (h0 : qErr q = 0) (hc : (chk Q L).1 = 0) (hnn : ¬ q = bNone) :
    Calls Tryz.prog 18 #[v, .string t, .string q, .string now] w fun e w' => ∃ X, Kept (verL (ofP t Q)) (verL (ofP t Q)).length X ∧ e = .returned (.tuple #[.string (pkV Q L t q now X), faultV (pkF Q L t q now X)]) ∧ Below w.heap.size w w' := by
  have g := good_of I hc
  have hQn : Q.length ≤ 1000 := by rw [I.ln]; exact hn
  have HB0 := hid ((Below.refl w.heap.size w).alloc (Nat.le_refl _) (.cells #[.int .i64 0, .int .i64 0] 40))
  have HE0 := hid (heap_new w (.cells #[.int .i64 0, .int .i64 0] 40))
  have HQE := hid (fun W => rqerr_any q W hq)
  rw [h0] at HQE
  have HIF := hid (fun W (h : Below w.heap.size w W) => iFault_any Q L v W hn sh (I.below h))
  have HVS := hid (fun W (h : Below w.heap.size w W) => versOf_any Q t v W hQn hz (I.below h).es)
  have HVK := hid (fun (X : List ByteArray) (h : Kept (verL (pthR t Q)) (verL (pthR t Q)).length X) => show Kept (verL (ofP t Q)) (verL (ofP t Q)).length X by rw [show ofP t Q = pthR t Q from g.ofP t]; exact h)
  have HOK := hid (fun (X : List ByteArray) (hK : Kept (verL (ofP t Q)) (verL (ofP t Q)).length X) => verOk_of g hz hK)
  have HXN := hid (fun (X : List ByteArray) (hK : Kept (verL (ofP t Q)) (verL (ofP t Q)).length X) => show X.length ≤ 1000 by rw [kept_len g hK]; exact Nat.le_trans (List.length_filter_le _ _) hQn)
  have HVN := hid (fun W => verOf_both now W (by omega))
  have HVX := hid (fun x W (h : x.size < 999999) => verOf_both x W (by omega))
  have HLS := hid (fun x W (h : x.size < 999999) => isLess_any x now W h hnow)
  have HSU := hid (fun x W (h : x.size < 999999) => rsuit_any q x W hq h)
  have HW := hid (fun W => rword_any q W)
  have HSG := hid (fun W => rsgn_any q W)
  have HLK := hid (fun b (X : List ByteArray) u W (h : Below w.heap.size w W) (hX : X.length ≤ 1000000) (hok : VerOk Q t X) (hu : TxAt W u X) => likedG_any Q t b X v u W hQn hX hok (I.below h).es hu)
  have HMX := hid (fun a W (h : a.size < 999999) => maxOf_any a now W h hnow)
  have HFN := hid (fun W => fine_any W)
  have HBA := hid (fun W => rbare_any 5 W)
  have HPF := hid (fun X => pkF_m (t := t) (now := now) (X := X) (show ¬ qErr q ≠ 0 by rw [h0]; simp) (show ¬ (chk Q L).1 ≠ 0 by rw [hc]; simp) hnn)
  have HPV := hid (fun X => pkV_m (t := t) (now := now) (X := X) (show ¬ qErr q ≠ 0 by rw [h0]; simp) (show ¬ (chk Q L).1 ≠ 0 by rw [hc]; simp) hnn)
  have n1' : (q.toList == [110, 111, 110, 101]) = false := by
    have := eqW q bNone
    rw [decide_eq_false hnn] at this
    exact this.symm
  obtain ⟨i0, hi0, hz0, hz1, hz2⟩ := info_parts infoStr
  obtain ⟨va, vc, hv1, -⟩ := id I.es
  subst hv1
  obtain ⟨cc, oo, hco⟩ : ∃ cc oo, chk Q L = (cc, oo) := ⟨_, _, rfl⟩
  rw [hco] at HIF hc
  simp only at hc
  subst hc
  unfold faultV at HIF
  simp only at HIF
  generalize atOf oo = ao at *
  clear I sh hco h0 hnn hz g
  go_enter Tryz.func18, Tryz.ntmps18
  go_wp2_with fail
  refine (HQE.out _).mono ?_
  rintro e w1 ⟨rfl, hb⟩
  have HB1 := hid (HB0.out.trans (hb.mono HB0.out.size))
  have HE1 := hid ((hb.block _ (lt_of_blk HE0.out)).trans HE0.out)
  clear hb HQE
  go_wp2_with fail
  refine (HIF.out _ HB1.out).mono ?_
  rintro e w2 ⟨rfl, hb⟩
  have HBa := hid (HB1.out.trans (hb.mono HB1.out.size))
  have HEa := hid ((hb.block _ (lt_of_blk HE1.out)).trans HE1.out)
  clear hb HIF
  have HB2 := hid (HBa.out.alloc HBa.out.size (.cells #[.int .i64 0, .int .i64 ao] 40))
  have HE2 := hid (heap_old w2 (.cells #[.int .i64 0, .int .i64 ao] 40) HEa.out)
  have HF2 := hid (heap_new w2 (.cells #[.int .i64 0, .int .i64 ao] 40))
  have hlt := lt_of_blk HEa.out
  have hne : ¬ w2.heap.size = w.heap.size := by omega
  have hne2 : ¬ w.heap.size = w2.heap.size := by omega
  obtain ⟨f0, f1, _⟩ := bxQ HF2.out
  go_wp2_with fail
  generalize w2.alloc (.cells #[.int .i64 0, .int .i64 ao] 40) = w2b at *
  clear HB0 HE0 HB1 HE1 HBa HEa HF2 f0 f1 hlt hne hne2
  refine (HVS.out _ HB2.out).mono ?_
  rintro e w3 ⟨u, X, rfl, hu, hK, hb⟩
  have HB3 := hid (HB2.out.trans (hb.mono HB2.out.size))
  have HE3 := hid ((hb.block _ (lt_of_blk HE2.out)).trans HE2.out)
  have HU3 := hid hu
  have HK := hid (HVK.out X hK)
  have HVO := hid (HOK.out X HK.out)
  have HXL := hid (HXN.out X HK.out)
  have HXM := hid (show X.length ≤ 1000000 from Nat.le_trans HXL.out (by decide))
  obtain ⟨ua, uc, hu1, -⟩ := hu
  subst hu1
  clear hb hK HVS HVK HOK HXN HB2 HE2
  go_wp2_with fail
  refine (HVN.out _).mono ?_
  rintro e w3b ⟨n0, n1, n2, sa, sk, sc, rfl, hnn, hb⟩
  have HNN := hid hnn
  have HBc := hid (HB3.out.trans (hb.mono HB3.out.size))
  have HA4 := hid ((Below.refl w3b.heap.size w3b).alloc (Nat.le_refl _) (.cells #[.int .i64 n0, .int .i64 n1, .int .i64 n2, .slice sa sk sc] 46))
  have HB4 := hid (HBc.out.trans (HA4.out.mono HBc.out.size))
  have HE4 := hid ((HA4.out.block _ (Nat.lt_of_lt_of_le (lt_of_blk HE3.out) hb.size)).trans ((hb.block _ (lt_of_blk HE3.out)).trans HE3.out))
  have hN := heap_alloc_new w3b (.cells #[.int .i64 n0, .int .i64 n1, .int .i64 n2, .slice sa sk sc] 46)
  have HP4 := hid (show Pk _ (w3b.alloc (.cells #[.int .i64 n0, .int .i64 n1, .int .i64 n2, .slice sa sk sc] 46)) (.slice ua X.length uc) X w3b.heap.size n0 n1 from ⟨Below.refl _ _, (HU3.out.below hb).below HA4.out, by rw [Lib.cell_of_heap hN]; rfl, by rw [Lib.cell_of_heap hN]; rfl⟩)
  clear hb hnn hN HA4 HBc HB3 HE3 HU3 HVN
  go_wp2_with fail
  generalize w3b.alloc (.cells #[.int .i64 n0, .int .i64 n1, .int .i64 n2, .slice sa sk sc] 46) = w4 at *
  generalize w3b.heap.size = vb at *
  have HPK := hid (fun W (h : Below w4.heap.size w4 W) => HP4.out.from h)
  have HOE := hid (fun x => show okQ q now x = (if isWd q then (if q = bPatch ∧ verErr now.data.toList = 0 then decide (nAt x.data.toList 0 = nAt now.data.toList 0) && decide (nAt x.data.toList 1 = nAt now.data.toList 1) && !lessB x.data.toList now.data.toList else true) else suitB q x) from rfl)
  go_loopw [15, 16] (fun sv iv wr => ∃ i : Nat, i ≤ X.length ∧ iv = .int .i64 i ∧ Hid (wr.ownsRow w4.heap.size 9 1 sv (someQ q now (X.take i)).length ((someQ q now (X.take i)).map Value.string)) ∧ Hid (Pk w4 wr (.slice ua X.length uc) X vb n0 n1)) (fun _ iv _ => X.length - (intOf iv).toNat)
  case atStart => exact ⟨0, Nat.zero_le _, rfl, hid (World.ownsRow_nil _ _ _ _), HP4⟩
  case round =>
    obtain ⟨i, hi, rfl, HOW, HG⟩ := hrel
    by_cases hlt : i < X.length
    · have hiI := ix_lt hlt
      have hii := ix_pos i
      have HLI := hid hlt
      obtain ⟨xb, xo, hua, y0⟩ := tx_cellK HG.out.tx hlt
      subst hua
      have HNX := hid (someQ_next (q := q) (now := now) hlt)
      have HLN := hid (show (someQ q now (X.take i)).length ≤ 1000 from Nat.le_trans (someQ_len _ _ _) (Nat.le_trans (by rw [List.length_take]; omega) HXL.out))
      obtain ⟨hxs, hxv⟩ : X[i].size < 999999 ∧ verErr X[i].data.toList = 0 := by
        obtain ⟨k, hk, _, _, h1, h2, _⟩ := HVO.out.at_ i hlt
        exact ⟨h2, h1⟩
      generalize X[i] = x at *
      have HOX := hid (HOE.out x)
      obtain ⟨SX, hSX⟩ : ∃ SX, someQ q now (X.take i) = SX := ⟨_, rfl⟩
      rw [hSX] at HOW HNX HLN
      clear hSX hlt
      have HSX := hid (HSU.out x)
      cases hw : isWd q
      · rw [hw] at HW
        have HPT := hid (show (q.toList == [112, 97, 116, 99, 104]) = false by
          have := eqW q bPatch
          rw [decide_eq_false (fun e => by subst e; have h2 : isWd bPatch = true := by { unfold isWd; simp }; rw [h2] at hw; cases hw)] at this
          exact this.symm)
        have b1 := HPT.out
        rw [show okQ q now x = suitB q x from okQ_suit hw] at HNX
        have HS1 := hid (fun W => HSU.out x W hxs)
        clear hw HOX
        generalize suitB q x = z at *
        go_wp2_with fail
        refine (HW.out wr).mono ?_
        rintro e w5 ⟨rfl, rfl⟩
        go_wp2_with fail
        refine (HS1.out _).mono ?_
        rintro e w6 ⟨rfl, hb⟩
        have HG6 := hid (HG.out.below hb)
        have HO6 := hid (owns_below HOW.out hb)
        replace y0 := cell_below hb y0
        clear hb HS1
        cases z
        · replace HNX := hid (show someQ q now (X.take (i + 1)) = SX from HNX.out)
          go_wp2_with fail
          go_roundw
          case rel => first | exact ⟨i + 1, HLI.out, nr_idx i, hid (by rw [HNX.out]; exact HO6.out), HG6⟩ | exact ⟨i + 1, HLI.out, nx_idx HLI.out HXM.out, hid (by rw [HNX.out]; exact HO6.out), HG6⟩
          case measure => first | exact nr_meas HLI.out | exact nx_meas HLI.out HXM.out
        · replace HNX := hid (show someQ q now (X.take (i + 1)) = SX ++ [x] from HNX.out)
          go_wp2_with (at_builtin; refine wpList_append_own _ rfl _ _ 29 rfl w4.heap.size 9 i0 _ 1 16 Tryz.underlying29 hi0 hz0 hz1 hz2 rfl (by decide) _ _ _ rfl (HO6.out.alloc _) ⟨w6.heap.size, 0, none⟩ 1 1 [.string x] rfl rfl (World.news_of_block (heap_new _ _)) (by intro u hu; simp at hu; subst hu; rfl) (Nat.le_trans (Nat.add_le_add_right HLN.out 1) (by unfold maxLen; decide)) (by have hz := HLN.out; omega) (Nat.le_trans HG6.out.bl.size (by simp)) ?_)
          intro v' w9 hown hgrow _
          have HB9 := hid (rel_app HG6.out.bl.size HG6.out.bl HO6.out (Below.refl _ _) hgrow)
          have HO9 := hid (show w9.ownsRow w4.heap.size 9 1 v' (SX ++ [x]).length ((SX ++ [x]).map Value.string) by rw [List.length_append, List.map_append]; exact hown)
          clear hown hgrow
          go_wp2_with fail
          go_roundw
          case rel => first | exact ⟨i + 1, HLI.out, nr_idx i, hid (by rw [HNX.out]; exact HO9.out), hid (HPK.out _ HB9.out)⟩ | exact ⟨i + 1, HLI.out, nx_idx HLI.out HXM.out, hid (by rw [HNX.out]; exact HO9.out), hid (HPK.out _ HB9.out)⟩
          case measure => first | exact nr_meas HLI.out | exact nx_meas HLI.out HXM.out
      · rw [hw] at HW
        cases hpt : (q.toList == [112, 97, 116, 99, 104])
        · have hqp : ¬ q = bPatch := fun e => by
            have := eqW q bPatch
            rw [decide_eq_true e] at this
            rw [show bPatch.data.toList = [112, 97, 116, 99, 104] from rfl, hpt] at this
            cases this
          rw [okQ_any hw (fun h => hqp h.1)] at HNX
          replace HNX := hid (show someQ q now (X.take (i + 1)) = SX ++ [x] from HNX.out)
          clear hw hqp HOX
          go_wp2_with fail
          refine (HW.out wr).mono ?_
          rintro e w5 ⟨rfl, rfl⟩
          go_wp2_with (at_builtin; refine wpList_append_own _ rfl _ _ 29 rfl w4.heap.size 9 i0 _ 1 16 Tryz.underlying29 hi0 hz0 hz1 hz2 rfl (by decide) _ _ _ rfl (HOW.out.alloc _) ⟨w5.heap.size, 0, none⟩ 1 1 [.string x] rfl rfl (World.news_of_block (heap_new _ _)) (by intro u hu; simp at hu; subst hu; rfl) (Nat.le_trans (Nat.add_le_add_right HLN.out 1) (by unfold maxLen; decide)) (by have hz := HLN.out; omega) (Nat.le_trans HG.out.bl.size (by simp)) ?_)
          intro v' w9 hown hgrow _
          have HB9 := hid (rel_app HG.out.bl.size HG.out.bl HOW.out (Below.refl _ _) hgrow)
          have HO9 := hid (show w9.ownsRow w4.heap.size 9 1 v' (SX ++ [x]).length ((SX ++ [x]).map Value.string) by rw [List.length_append, List.map_append]; exact hown)
          clear hown hgrow
          go_wp2_with fail
          go_roundw
          case rel => first | exact ⟨i + 1, HLI.out, nr_idx i, hid (by rw [HNX.out]; exact HO9.out), hid (HPK.out _ HB9.out)⟩ | exact ⟨i + 1, HLI.out, nx_idx HLI.out HXM.out, hid (by rw [HNX.out]; exact HO9.out), hid (HPK.out _ HB9.out)⟩
          case measure => first | exact nr_meas HLI.out | exact nx_meas HLI.out HXM.out
        · have hqp : q = bPatch := by
            have := eqW q bPatch
            rw [show bPatch.data.toList = [112, 97, 116, 99, 104] from rfl, hpt] at this
            exact of_decide_eq_true this
          by_cases hv0 : verErr now.data.toList = 0
          · have bz : (((verErr now.data.toList : Nat) : Int) == 0) = true := by rw [hv0]; rfl
            obtain ⟨e0, e1⟩ := HNN.out hv0
            rw [show okQ q now x = (decide (nAt x.data.toList 0 = n0) && decide (nAt x.data.toList 1 = n1) && !lessB x.data.toList now.data.toList) by rw [hqp, okQ_patch hv0, e0, e1], dec_beq, dec_beq] at HNX
            have HV1 := hid (fun W => HVX.out x W hxs)
            rw [hxv] at HV1
            have HL1 := hid (fun W => HLS.out x W hxs)
            clear hw HOX hqp e0 e1
            generalize lessB x.data.toList now.data.toList = zl at *
            generalize ((verErr now.data.toList : Nat) : Int) = bad at *
            go_wp2_with fail
            refine (HV1.out _).mono ?_
            rintro e w5 ⟨a0, a1, a2, ta, tk, tc, rfl, ha, hb⟩
            obtain ⟨ea0, ea1⟩ := ha (by first | rfl | trivial)
            rw [← ea0, ← ea1] at HNX
            have HB5 := hid ((Below.refl w5.heap.size w5).alloc (Nat.le_refl _) (.cells #[.int .i64 a0, .int .i64 a1, .int .i64 a2, .slice ta tk tc] 46))
            have hN5 := heap_alloc_new w5 (.cells #[.int .i64 a0, .int .i64 a1, .int .i64 a2, .slice ta tk tc] 46)
            have HG5 := hid ((HG.out.below hb).below HB5.out)
            have HO5 := hid (owns_below (owns_below HOW.out hb) HB5.out)
            have y5 := cell_below HB5.out (cell_below hb y0)
            have k0 : (w5.alloc (.cells #[.int .i64 a0, .int .i64 a1, .int .i64 a2, .slice ta tk tc] 46)).cell? ⟨w5.heap.size, 0, none⟩ = some (.int .i64 a0) := by rw [Lib.cell_of_heap hN5]; rfl
            have k1 : (w5.alloc (.cells #[.int .i64 a0, .int .i64 a1, .int .i64 a2, .slice ta tk tc] 46)).cell? ⟨w5.heap.size, 1, none⟩ = some (.int .i64 a1) := by rw [Lib.cell_of_heap hN5]; rfl
            clear hb hN5 y0 ea0 ea1 ha HV1
            go_wp2_with fail
            generalize w5.alloc (.cells #[.int .i64 a0, .int .i64 a1, .int .i64 a2, .slice ta tk tc] 46) = w5b at *
            generalize w5.heap.size = xb5 at *
            refine (HL1.out _).mono ?_
            rintro e w6 ⟨rfl, hb⟩
            have HG6 := hid (HG5.out.below hb)
            have HO6 := hid (owns_below HO5.out hb)
            have y6 := cell_below hb y5
            replace k0 := cell_below hb k0
            replace k1 := cell_below hb k1
            have d0 := HG6.out.c0
            have d1 := HG6.out.c1
            clear hb y5 HG5 HO5 HL1
            cases hz0' : (a0 == n0)
            · rw [hz0'] at HNX
              replace HNX := hid (show someQ q now (X.take (i + 1)) = SX from HNX.out)
              go_wp2_with fail
              refine (HW.out w6).mono ?_
              rintro e w7 ⟨rfl, rfl⟩
              go_wp2_with fail
              go_roundw
              case rel => first | exact ⟨i + 1, HLI.out, nr_idx i, hid (by rw [HNX.out]; exact HO6.out), HG6⟩ | exact ⟨i + 1, HLI.out, nx_idx HLI.out HXM.out, hid (by rw [HNX.out]; exact HO6.out), HG6⟩
              case measure => first | exact nr_meas HLI.out | exact nx_meas HLI.out HXM.out
            · rw [hz0'] at HNX
              cases hz1' : (a1 == n1)
              · rw [hz1'] at HNX
                replace HNX := hid (show someQ q now (X.take (i + 1)) = SX from HNX.out)
                go_wp2_with fail
                refine (HW.out w6).mono ?_
                rintro e w7 ⟨rfl, rfl⟩
                go_wp2_with fail
                go_roundw
                case rel => first | exact ⟨i + 1, HLI.out, nr_idx i, hid (by rw [HNX.out]; exact HO6.out), HG6⟩ | exact ⟨i + 1, HLI.out, nx_idx HLI.out HXM.out, hid (by rw [HNX.out]; exact HO6.out), HG6⟩
                case measure => first | exact nr_meas HLI.out | exact nx_meas HLI.out HXM.out
              · rw [hz1'] at HNX
                cases zl
                · replace HNX := hid (show someQ q now (X.take (i + 1)) = SX ++ [x] from HNX.out)
                  go_wp2_with fail
                  refine (HW.out w6).mono ?_
                  rintro e w7 ⟨rfl, rfl⟩
                  go_wp2_with (at_builtin; refine wpList_append_own _ rfl _ _ 29 rfl w4.heap.size 9 i0 _ 1 16 Tryz.underlying29 hi0 hz0 hz1 hz2 rfl (by decide) _ _ _ rfl (HO6.out.alloc _) ⟨w7.heap.size, 0, none⟩ 1 1 [.string x] rfl rfl (World.news_of_block (heap_new _ _)) (by intro u hu; simp at hu; subst hu; rfl) (Nat.le_trans (Nat.add_le_add_right HLN.out 1) (by unfold maxLen; decide)) (by have hz := HLN.out; omega) (Nat.le_trans HG6.out.bl.size (by simp)) ?_)
                  intro v' w9 hown hgrow _
                  have HB9 := hid (rel_app HG6.out.bl.size HG6.out.bl HO6.out (Below.refl _ _) hgrow)
                  have HO9 := hid (show w9.ownsRow w4.heap.size 9 1 v' (SX ++ [x]).length ((SX ++ [x]).map Value.string) by rw [List.length_append, List.map_append]; exact hown)
                  clear hown hgrow
                  go_wp2_with fail
                  go_roundw
                  case rel => first | exact ⟨i + 1, HLI.out, nr_idx i, hid (by rw [HNX.out]; exact HO9.out), hid (HPK.out _ HB9.out)⟩ | exact ⟨i + 1, HLI.out, nx_idx HLI.out HXM.out, hid (by rw [HNX.out]; exact HO9.out), hid (HPK.out _ HB9.out)⟩
                  case measure => first | exact nr_meas HLI.out | exact nx_meas HLI.out HXM.out
                · replace HNX := hid (show someQ q now (X.take (i + 1)) = SX from HNX.out)
                  go_wp2_with fail
                  refine (HW.out w6).mono ?_
                  rintro e w7 ⟨rfl, rfl⟩
                  go_wp2_with fail
                  go_roundw
                  case rel => first | exact ⟨i + 1, HLI.out, nr_idx i, hid (by rw [HNX.out]; exact HO6.out), HG6⟩ | exact ⟨i + 1, HLI.out, nx_idx HLI.out HXM.out, hid (by rw [HNX.out]; exact HO6.out), HG6⟩
                  case measure => first | exact nr_meas HLI.out | exact nx_meas HLI.out HXM.out
          · have bz : (((verErr now.data.toList : Nat) : Int) == 0) = false := by simp; omega
            have bz2 : ¬ ((verErr now.data.toList : Nat) : Int) = 0 := by omega
            rw [okQ_any hw (fun h => hv0 h.2)] at HNX
            replace HNX := hid (show someQ q now (X.take (i + 1)) = SX ++ [x] from HNX.out)
            clear hw hqp HOX hv0
            generalize ((verErr now.data.toList : Nat) : Int) = bad at *
            go_wp2_with fail
            refine (HW.out wr).mono ?_
            rintro e w5 ⟨rfl, rfl⟩
            go_wp2_with (at_builtin; refine wpList_append_own _ rfl _ _ 29 rfl w4.heap.size 9 i0 _ 1 16 Tryz.underlying29 hi0 hz0 hz1 hz2 rfl (by decide) _ _ _ rfl (HOW.out.alloc _) ⟨w5.heap.size, 0, none⟩ 1 1 [.string x] rfl rfl (World.news_of_block (heap_new _ _)) (by intro u hu; simp at hu; subst hu; rfl) (Nat.le_trans (Nat.add_le_add_right HLN.out 1) (by unfold maxLen; decide)) (by have hz := HLN.out; omega) (Nat.le_trans HG.out.bl.size (by simp)) ?_)
            intro v' w9 hown hgrow _
            have HB9 := hid (rel_app HG.out.bl.size HG.out.bl HOW.out (Below.refl _ _) hgrow)
            have HO9 := hid (show w9.ownsRow w4.heap.size 9 1 v' (SX ++ [x]).length ((SX ++ [x]).map Value.string) by rw [List.length_append, List.map_append]; exact hown)
            clear hown hgrow
            go_wp2_with fail
            go_roundw
            case rel => first | exact ⟨i + 1, HLI.out, nr_idx i, hid (by rw [HNX.out]; exact HO9.out), hid (HPK.out _ HB9.out)⟩ | exact ⟨i + 1, HLI.out, nx_idx HLI.out HXM.out, hid (by rw [HNX.out]; exact HO9.out), hid (HPK.out _ HB9.out)⟩
            case measure => first | exact nr_meas HLI.out | exact nx_meas HLI.out HXM.out
    · have hiI := ix_nlt hlt
      have hie : i = X.length := Nat.le_antisymm hi (Nat.le_of_not_lt hlt)
      subst hie
      rw [List.take_length] at HOW
      have HS0 := hid (HLK.out (leastQ q) (someQ q now X))
      have HPB := hid (show likG Q t (leastQ q) (someQ q now X) = pkB Q t q now X from rfl)
      have HSV := hid (verOk_some (q := q) (now := now) HVO.out)
      have HSL := hid (show (someQ q now X).length ≤ 1000000 from Nat.le_trans (someQ_len _ _ _) HXM.out)
      have HPS := hid (show (pkB Q t q now X).size < 999999 from likG_size HSV.out)
      have HF := hid (HPF.out X)
      have HV := hid (HPV.out X)
      have HLQ := hid (show leastQ q = (((sgn q).1.toList == [62]) || ((sgn q).1.toList == [62, 61])) by unfold leastQ; rw [eqW, eqW]; rfl)
      have HTX := hid (own_tx HOW.out)
      obtain ⟨oa, oc, hov⟩ := own_slN HOW.out
      subst hov
      rw [HPB.out] at HS0
      have HEr := hid ((HG.out.bl.block _ (lt_of_blk HE4.out)).trans HE4.out)
      have HBr := hid (HB4.out.trans (HG.out.bl.mono HB4.out.size))
      clear hlt HOW HPF HPV HLK HVO HG HP4 HPK HNN HOE HPB
      generalize leastQ q = lb at *
      generalize someQ q now X = SO at *
      obtain ⟨PB, hPB⟩ : ∃ PB, pkB Q t q now X = PB := ⟨_, rfl⟩
      rw [hPB] at HS0 HPS HF HV
      clear hPB
      go_wp2_with fail
      refine (HSG.out _).mono ?_
      rintro e w5 ⟨rfl, hb⟩
      have HB5 := hid (HBr.out.trans (hb.mono HBr.out.size))
      have HE5 := hid ((hb.block _ (lt_of_blk HEr.out)).trans HEr.out)
      have HT5 := hid (HTX.out.below hb)
      clear hb HSG
      have HL5 := hid (HS0.out _ w5 HB5.out HSL.out HSV.out HT5.out)
      generalize (sgn q).1 = sg at *
      generalize (sgn q).2 = sr at *
      generalize hg1 : (sg.toList == [62]) = c1 at *
      generalize hg2 : (sg.toList == [62, 61]) = c2 at *
      have HM5 := hid (fun W => HMX.out PB W HPS.out)
      have HZB := hid (show (PB.toList == []) = decide (PB = bE) from (eqW PB bE).symm)
      have HUB := hid (show (q.toList == [117, 112, 103, 114, 97, 100, 101]) = decide (q = bUpgrade) from (eqW q bUpgrade).symm)
      have HLQ2 := HLQ.out
      subst HLQ2
      have hcut : Hid (Calls Tryz.prog 52 #[.slice va Q.length vc, .string t, .slice oa SO.length oc, .bool (c1 || c2)] w5 fun e w' => e = .returned (.string PB) ∧ Below w5.heap.size w5 w') := hid HL5.out
      clear HL5 HLQ HS0
      cases c1 <;> cases c2
      all_goals
        go_wp2_with fail
        refine hcut.out.mono ?_
        rintro e w6 ⟨rfl, hb⟩
        have HB6 := hid (HB5.out.trans (hb.mono HB5.out.size))
        have HE6 := hid ((hb.block _ (lt_of_blk HE5.out)).trans HE5.out)
        clear hb
        by_cases hpb : PB = bE
        · rw [decide_eq_true hpb] at HZB
          have z1 := HZB.out
          rw [if_pos hpb] at HF HV
          clear HZB hpb
          go_wp2_with fail
          refine (HBA.out _).mono ?_
          rintro e w7 ⟨rfl, hb⟩
          have HB7 := hid (HB6.out.trans (hb.mono HB6.out.size))
          have HE7 := hid ((hb.block _ (lt_of_blk HE6.out)).trans HE6.out)
          clear hb
          obtain ⟨s0, s1, tf⟩ := bxQ HE7.out
          go_wp2_with fail
          refine bodyPost_ret (v := .tuple #[.string ⟨#[]⟩, .agg #[.int .i64 5, .int .i64 (-1)]]) (by simp [results, Tryz.results18, go_sem, s0, s1]) rfl ?_
          exact ⟨X, HK.out, by rw [HF.out, HV.out]; rfl, put2_below HB7.out (Nat.le_refl _)⟩
        · rw [decide_eq_false hpb] at HZB
          have z1 := HZB.out
          rw [if_neg hpb] at HF HV
          clear HZB hpb
          by_cases hup : q = bUpgrade
          · rw [decide_eq_true hup] at HUB
            have z2 := HUB.out
            rw [if_pos hup] at HV
            clear HUB hup
            go_wp2_with fail
            refine (HM5.out _).mono ?_
            rintro e w7 ⟨rfl, hb⟩
            have HB7 := hid (HB6.out.trans (hb.mono HB6.out.size))
            have HE7 := hid ((hb.block _ (lt_of_blk HE6.out)).trans HE6.out)
            clear hb
            generalize maxB PB now = MB at *
            go_wp2_with fail
            refine (HFN.out _).mono ?_
            rintro e w8 ⟨rfl, hb⟩
            have HB8 := hid (HB7.out.trans (hb.mono HB7.out.size))
            have HE8 := hid ((hb.block _ (lt_of_blk HE7.out)).trans HE7.out)
            clear hb
            obtain ⟨s0, s1, tf⟩ := bxQ HE8.out
            go_wp2_with fail
            refine bodyPost_ret (v := .tuple #[.string MB, .agg #[.int .i64 0, .int .i64 (-1)]]) (by simp [results, Tryz.results18, go_sem, s0, s1]) rfl ?_
            exact ⟨X, HK.out, by rw [HF.out, HV.out]; rfl, put2_below HB8.out (Nat.le_refl _)⟩
          · rw [decide_eq_false hup] at HUB
            have z2 := HUB.out
            rw [if_neg hup] at HV
            clear HUB hup
            go_wp2_with fail
            refine (HFN.out _).mono ?_
            rintro e w8 ⟨rfl, hb⟩
            have HB8 := hid (HB6.out.trans (hb.mono HB6.out.size))
            have HE8 := hid ((hb.block _ (lt_of_blk HE6.out)).trans HE6.out)
            clear hb
            obtain ⟨s0, s1, tf⟩ := bxQ HE8.out
            go_wp2_with fail
            refine bodyPost_ret (v := .tuple #[.string PB, .agg #[.int .i64 0, .int .i64 (-1)]]) (by simp [results, Tryz.results18, go_sem, s0, s1]) rfl ?_
            exact ⟨X, HK.out, by rw [HF.out, HV.out]; rfl, put2_below HB8.out (Nat.le_refl _)⟩
end Ve
end Go.Proofs.YtmbphngmaglgmaaGreatDoor

/-
  PickOf of the document's answer, all its ways together.
-/
namespace Go.Proofs.YtmbphngmaglgmaaGreatDoor
open Go.RowKit Go.Maps
namespace Ve

theorem rpick_all (Q : List Raw) (L : List Ent) (t q now : ByteArray) (v : Value) (w : World) (hq : q.size ≤ 100) (hnow : now.size ≤ 100) (hn : L.length ≤ 200) (sh : ∀ e, e ∈ L → ShE e) (hz : shortQ Q) (I : Ixs w v Q L) :
    Calls Tryz.prog 18 #[v, .string t, .string q, .string now] w fun e w' => ∃ X, (look Q L q → Kept (verL (ofP t Q)) (verL (ofP t Q)).length X) ∧ e = .returned (.tuple #[.string (pkV Q L t q now X), faultV (pkF Q L t q now X)]) ∧ Below w.heap.size w w' := by
  by_cases h0 : qErr q ≠ 0
  · obtain ⟨va, vc, hv1, -⟩ := id I.es
    subst hv1
    refine (rpick_q Q t q now va vc w (by omega) h0).mono ?_
    rintro e w' ⟨rfl, hb⟩
    exact ⟨[], fun h => absurd h.1 h0, by rw [pkV_q h0, pkF_q h0], hb⟩
  by_cases hc : (chk Q L).1 ≠ 0
  · refine (rpick_c Q L t q now v w (by omega) (by omega) sh I (by simpa using h0) hc).mono ?_
    rintro e w' ⟨rfl, hb⟩
    exact ⟨[], fun h => absurd h.2.1 hc, by rw [pkV_c h0 hc, pkF_c h0 hc], hb⟩
  by_cases hnn : q = bNone
  · subst hnn
    refine (rpick_n Q L t now v w (by omega) sh I (by simpa using hc)).mono ?_
    rintro e w' ⟨rfl, hb⟩
    exact ⟨[], fun h => absurd rfl h.2.2, by rw [pkV_n h0 hc rfl, pkF_n h0 hc rfl], hb⟩
  refine (rpick_m Q L t q now v w (by omega) (by omega) (by omega) sh hz I (by simpa using h0) (by simpa using hc) hnn).mono ?_
  rintro e w' ⟨X, hK, rfl, hb⟩
  exact ⟨X, fun _ => hK, rfl, hb⟩
end Ve
end Go.Proofs.YtmbphngmaglgmaaGreatDoor

/-
  What coded and faulted of the statements of chapters 10 to 14 answer of an error with its own number and place: true.
-/
namespace Go.Proofs.YtmbphngmaglgmaaGreatDoor
open Go.RowKit Go.Maps
namespace Ve

set_option maxHeartbeats 1000000 in
theorem faulted3_any (A : Nat → Addr) (x : Value) (r : Nat × Option Nat) (w : World) (S : Er.Sen w A) (h : ErrAt w A x r.1 r.2) (hc : r.1 ≤ 10) :
    Calls Tryz.prog 19 #[x, faultV r] w fun e w' => e = .returned (.bool true) ∧ Below w.heap.size w w' := by
  obtain ⟨c, o⟩ := r
  have HB0 := hid ((Below.refl w.heap.size w).alloc (Nat.le_refl _) (.cells #[.int .i64 (c : Nat), .int .i64 (atOf o)] 40))
  have HC := hid (code_at2 A x c o _ (S.below HB0.out) (h.below HB0.out) hc)
  unfold faultV
  simp only
  generalize atOf o = y at *
  generalize (c : Int) = z at *
  have e1 : (z == z) = true := beq_self_eq_true z
  have e2 : (y == y) = true := beq_self_eq_true y
  clear S h hc
  go_enter Tryz.func19, Tryz.ntmps19
  go_wp2_with fail
  refine HC.out.mono ?_
  rintro e w1 ⟨rfl, hb⟩
  obtain ⟨⟨r0, r1⟩, rz⟩ := res2 (hb.mono (by simp))
  have HB := hid (HB0.out.trans (hb.mono HB0.out.size))
  clear hb
  cases hz : (z == 0)
  all_goals
    go_wp2_with fail
    go_ret
    exact ⟨rfl, HB.out⟩
set_option maxHeartbeats 1000000 in
theorem coded3_any (A : Nat → Addr) (c : Nat) (w : World) (S : Er.Sen w A) (hc : c ≤ 10) :
    Calls Tryz.prog 15 #[errA A c, .int .i64 ((c : Nat) : Int)] w fun e w' => e = .returned (.bool true) ∧ Below w.heap.size w w' := by
  have HC := hid (code_at2 A (errA A c) c none w S rfl hc)
  have e3 : atOf none = -1 := rfl
  rw [e3] at HC
  generalize errA A c = x at *
  generalize ((c : Nat) : Int) = z at *
  have e1 : (z == z) = true := beq_self_eq_true z
  clear S hc e3
  go_enter Tryz.func15, Tryz.ntmps15
  go_wp2_with fail
  refine HC.out.mono ?_
  rintro e w1 ⟨rfl, hb⟩
  have HB := hid hb
  clear hb
  go_wp2_with fail
  go_ret
  exact ⟨rfl, HB.out⟩
end Ve
end Go.Proofs.YtmbphngmaglgmaaGreatDoor
