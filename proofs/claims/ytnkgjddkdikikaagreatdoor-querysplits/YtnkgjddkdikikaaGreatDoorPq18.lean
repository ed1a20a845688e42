/-
  IxPa KeX IxB IxC KpO VerM
-/
import Derived.Test.YtnkgjddkdikikaaGreatDoorPq3
import Derived.Test.YtnkgjddkdikikaaGreatDoorPq27
import Derived.Test.YtnkgjddkdikikaaGreatDoorPq32
import Derived.Test.YtnkgjddkdikikaaGreatDoorPq2
import Derived.Test.YtnkgjddkdikikaaGreatDoorPq4
import Derived.Test.YtnkgjddkdikikaaGreatDoorPq7
import Derived.Test.YtnkgjddkdikikaaGreatDoorPq10
import Derived.Test.YtnkgjddkdikikaaGreatDoorPq5
import Derived.Test.YtnkgjddkdikikaaGreatDoorPq6
import Derived.Test.YtnkgjddkdikikaaGreatDoorPq12
import Derived.Test.YtnkgjddkdikikaaGreatDoorPq13
import Derived.OwnWalk
import Derived.Deep.AppendLies
import Derived.Test.YtnkgjddkdikikaaGreatDoorPq22
import Derived.Test.YtnkgjddkdikikaaGreatDoorPq23
import Derived.Test.YtnkgjddkdikikaaGreatDoorPq29
import Derived.Test.YtnkgjddkdikikaaGreatDoorPq11
import Derived.Test.YtnkgjddkdikikaaGreatDoorPq15
namespace Go.Proofs.YtnkgjddkdikikaaGreatDoor
open Go.RowKit
namespace Ve
theorem Good.find {Q : List Raw} (g : Good Q) {r : Raw} (hr : r ∈ Q) : ∃ n, ∃ hn : n < Q.length, idxOf (isM r.1) Q = (n : Int) ∧ Q[n] = r := by
  obtain ⟨i, hi, e⟩ := List.getElem_of_mem hr
  refine ⟨i, hi, idx_hit hi (fun j hj hji => ?_) (by rw [e]; unfold isM; simp), e⟩
  unfold isM
  rw [decide_eq_false]
  rintro ⟨h1, h2⟩
  have := g.one j i hj hi (by rw [e]; exact Prod.ext h1 h2)
  omega
end Ve
end Go.Proofs.YtnkgjddkdikikaaGreatDoor
namespace Go.Proofs.YtnkgjddkdikikaaGreatDoor
open Go.RowKit Go.Maps
namespace Ve
theorem ordV_three {s t : List UInt8} (hs : verErr s = 0) (ht : verErr t = 0) : ordV s t < 0 ∨ s = t ∨ ordV t s < 0 := by
  rcases ordV_range s t with h | h | h
  · exact Or.inl (by omega)
  · exact Or.inr (Or.inl ((ordV_zero hs ht).1 h))
  · exact Or.inr (Or.inr (by rw [ordV_swap s t]; omega))
theorem sorted_ex : ∀ L : List ByteArray, (∀ x, x ∈ L → verErr x.data.toList = 0) → ∃ X : List ByteArray, rises (bl X) ∧ ∀ t, t ∈ bl X ↔ t ∈ bl L
  | [], _ => ⟨[], List.Pairwise.nil, fun t => Iff.rfl⟩
  | x :: L, h => by
    obtain ⟨X, h1, h2⟩ := sorted_ex L fun y hy => h y (List.mem_cons_of_mem _ hy)
    have hx := h x (List.mem_cons_self ..)
    have hv : ∀ y, y ∈ X → verErr y.data.toList = 0 := fun y hy => by
      have := (h2 y.data.toList).1 (List.mem_map.2 ⟨y, hy, rfl⟩)
      obtain ⟨z, hz, e⟩ := List.mem_map.1 this
      rw [← e]; exact h z (List.mem_cons_of_mem _ hz)
    let lo := X.filter fun y => decide (ordV y.data.toList x.data.toList < 0)
    let hi := X.filter fun y => decide (ordV x.data.toList y.data.toList < 0)
    have hr : X.Pairwise fun a b => ordV a.data.toList b.data.toList < 0 := by
      have := h1
      unfold rises bl at this
      exact List.pairwise_map.1 this
    refine ⟨lo ++ (x :: hi), ?_, fun t => ?_⟩
    · unfold rises bl
      rw [List.pairwise_map, List.pairwise_append]
      refine ⟨List.Pairwise.filter _ hr, List.pairwise_cons.2 ⟨fun b hb => of_decide_eq_true (List.mem_filter.1 hb).2, List.Pairwise.filter _ hr⟩, fun a ha b hb => ?_⟩
      have ha2 := of_decide_eq_true (List.mem_filter.1 ha).2
      rcases List.mem_cons.1 hb with rfl | hb
      · exact ha2
      · exact ordV_trans ha2 (of_decide_eq_true (List.mem_filter.1 hb).2)
    · constructor
      · intro ht
        obtain ⟨y, hy, rfl⟩ := List.mem_map.1 ht
        rcases List.mem_append.1 hy with hy | hy
        · exact List.mem_cons_of_mem _ ((h2 _).1 (List.mem_map.2 ⟨y, (List.mem_filter.1 hy).1, rfl⟩))
        · rcases List.mem_cons.1 hy with rfl | hy
          · exact List.mem_cons_self ..
          · exact List.mem_cons_of_mem _ ((h2 _).1 (List.mem_map.2 ⟨y, (List.mem_filter.1 hy).1, rfl⟩))
      · intro ht
        rcases List.mem_cons.1 ht with rfl | ht
        · exact List.mem_map.2 ⟨x, List.mem_append_right _ (List.mem_cons_self ..), rfl⟩
        · obtain ⟨y, hy, rfl⟩ := List.mem_map.1 ((h2 t).2 ht)
          refine List.mem_map.2 ?_
          rcases ordV_three (hv y hy) hx with h3 | h3 | h3
          · exact ⟨y, List.mem_append_left _ (List.mem_filter.2 ⟨hy, decide_eq_true h3⟩), rfl⟩
          · exact ⟨x, List.mem_append_right _ (List.mem_cons_self ..), h3.symm⟩
          · exact ⟨y, List.mem_append_right _ (List.mem_cons_of_mem _ (List.mem_filter.2 ⟨hy, decide_eq_true h3⟩)), rfl⟩
theorem kept_ex {L : List ByteArray} (h : ∀ x, x ∈ L → verErr x.data.toList = 0) : ∃ X, Kept L L.length X := by
  obtain ⟨X, h1, h2⟩ := sorted_ex L h
  refine ⟨X, h1, fun t => ?_⟩
  rw [h2, List.take_length]
  refine ⟨fun ht => ⟨ht, ?_⟩, fun ht => ht.1⟩
  obtain ⟨y, hy, rfl⟩ := List.mem_map.1 ht
  exact h y hy
end Ve
end Go.Proofs.YtnkgjddkdikikaaGreatDoor
namespace Go.Proofs.YtnkgjddkdikikaaGreatDoor
open Go.RowKit
namespace Ve
set_option maxHeartbeats 4000000 in
set_option maxRecDepth 100000 in
theorem where_some (K : Nat) (cb : Array Value) (P : Raw → Bool) (L : List Raw) (b o c : Nat) (w : World) (eg : ∀ args w, (callFunc K args).run Tryz.prog w = .ok (.enter K args) w) (hL : L.length ≤ 100000) (hs : ∀ r, r ∈ L → slR r)
    (hc : ∀ j (h : j < L.length), w.cell? ⟨b, o + j * 5, none⟩ = some (.string L[j].1.1) ∧ w.cell? ⟨b, o + j * 5 + 1, none⟩ = some (.string L[j].1.2) ∧ w.cell? ⟨b, o + j * 5 + 2, none⟩ = some L[j].2.1 ∧ w.cell? ⟨b, o + j * 5 + 3, none⟩ = some L[j].2.2.1 ∧ w.cell? ⟨b, o + j * 5 + 4, none⟩ = some (.bool L[j].2.2.2))
    (hK : ∀ i (h : i < L.length) W, Below w.heap.size w W → Calls Tryz.prog K (#[rawV L[i]] ++ cb) W fun e w' => e = .returned (.bool (P L[i])) ∧ Below W.heap.size W w') :
    Calls Tryz.prog 126 #[.slice (some ⟨b, o, none⟩) L.length c, .func (.func K) #[] cb] w fun e w' => ∃ v, e = .returned v ∧ w'.ownsRow w.heap.size 42 5 v (L.filter P).length (flatR (L.filter P)) ∧ Below w.heap.size w w' := by
  obtain ⟨i0, hi0, hz0, hz1, hz2⟩ := info_parts infoEnt
  have HK := hid hK
  have HC := hid hc
  have HSL := hid hs
  clear hK hc hs
  go_enter Tryz.func126, Tryz.ntmps126
  go_wp2_with fail
  go_loopw [5, 10] (fun ov i wr => ∃ k : Nat, k ≤ L.length ∧ i = .int .i64 k ∧ Hid (wr.ownsRow w.heap.size 42 5 ov ((L.take k).filter P).length (flatR ((L.take k).filter P))) ∧ Hid (Below w.heap.size w wr)) (fun _ i _ => L.length - (intOf i).toNat)
  case atStart => exact ⟨0, Nat.zero_le _, rfl, hid (World.ownsRow_nil _ _ _ _), hid (Below.refl _ _)⟩
  case round =>
    obtain ⟨k, hk, rfl, HO, HB⟩ := hrel
    by_cases hlt : k < L.length
    · obtain ⟨y0, y1, y2, y3, y4⟩ := HC.out k hlt
      have x0 := cell_below HB.out y0
      have x1 := cell_below HB.out y1
      have x2 := cell_below HB.out y2
      have x3 := cell_below HB.out y3
      have x4 := cell_below HB.out y4
      have hsl := HSL.out L[k] (List.getElem_mem hlt)
      have hkI : (k : Int) < (L.length : Int) := by omega
      have HLT := hid hlt
      have HY := hid (fun h => filter_yes hlt h (P := P))
      have HN := hid (fun h => filter_no hlt h (P := P))
      have HKK := hid (fun W hW => HK.out k hlt W hW)
      have HLN := hid (show ((L.take k).filter P).length ≤ 100000 from Nat.le_trans (List.length_filter_le _ _) (by rw [List.length_take]; omega))
      clear y0 y1 y2 y3 y4
      generalize L[k] = x at *
      obtain ⟨⟨p, q⟩, rv, pv, bk⟩ := x
      obtain ⟨⟨ra, rn, rc, hrv⟩, pa, pn, pc, hpv⟩ := hsl
      simp only at hrv hpv
      subst hrv
      subst hpv
      have HBa := hid (HB.out.alloc HB.out.size (.cells #[.string p, .string q, .slice ra rn rc, .slice pa pn pc, .bool bk] 42))
      have HP := hid (HKK.out _ HBa.out)
      have HOa := hid (HO.out.alloc (.cells #[.string p, .string q, .slice ra rn rc, .slice pa pn pc, .bool bk] 42))
      unfold rawV at HP
      clear hlt HKK
      cases hp : P ((p, q), .slice ra rn rc, .slice pa pn pc, bk)
      · rw [hp] at HP
        have HN2 := hid (HN.out hp)
        clear hp
        go_wp2_with fail
        refine HP.out.mono ?_
        rintro e w1 ⟨rfl, hb⟩
        have HB1 := hid (HBa.out.trans (hb.mono HBa.out.size))
        have HO1 := hid (owns_below HOa.out hb)
        clear hb
        go_wp2_with fail
        go_roundw
        case rel => exact ⟨k + 1, by have := HLT.out; omega, by go_num, by rw [HN2.out]; exact HO1, HB1⟩
        case measure => have := HLT.out; simp [intOf]; omega
      · rw [hp] at HP
        have HY2 := hid (HY.out hp)
        clear hp
        go_wp2_with fail
        refine HP.out.mono ?_
        rintro e w1 ⟨rfl, hb⟩
        have HB1 := hid (HBa.out.trans (hb.mono HBa.out.size))
        have HO1 := hid (owns_below HOa.out hb)
        have HE1 := hid (show w1.heap[wr.heap.size]? = some (.cells #[.string p, .string q, .slice ra rn rc, .slice pa pn pc, .bool bk] 42 (0, 0)) by rw [hb.block _ (by simp)]; exact heap_alloc_new wr _)
        have z0 : w1.cell? ⟨wr.heap.size, 0, none⟩ = some (.string p) := by rw [Lib.cell_of_heap HE1.out]; rfl
        have z1 : w1.cell? ⟨wr.heap.size, 1, none⟩ = some (.string q) := by rw [Lib.cell_of_heap HE1.out]; rfl
        have z2 : w1.cell? ⟨wr.heap.size, 2, none⟩ = some (.slice ra rn rc) := by rw [Lib.cell_of_heap HE1.out]; rfl
        have z3 : w1.cell? ⟨wr.heap.size, 3, none⟩ = some (.slice pa pn pc) := by rw [Lib.cell_of_heap HE1.out]; rfl
        have z4 : w1.cell? ⟨wr.heap.size, 4, none⟩ = some (.bool bk) := by rw [Lib.cell_of_heap HE1.out]; rfl
        clear hb x0 x1 x2 x3 x4
        go_wp2_with (at_builtin; refine wpList_append_own _ rfl _ _ 22 rfl w.heap.size 42 i0 _ 5 88 Tryz.underlying22 hi0 hz0 hz1 hz2 rfl (by decide) _ _ _ rfl (HO1.out.alloc _) ⟨w1.heap.size, 0, none⟩ 1 1 [.string p, .string q, .slice ra rn rc, .slice pa pn pc, .bool bk] rfl rfl ?c1 ?c2 ?c3 ?c4 ?c5 ?_)
        case c1 => exact World.news_of_block (cs := #[.string p, .string q, .slice ra rn rc, .slice pa pn pc, .bool bk]) (t := 42) (fr := (0, 0)) (heap_alloc_new w1 _)
        case c2 =>
          intro u hu
          simp at hu
          rcases hu with rfl | rfl | rfl | rfl | rfl <;> rfl
        case c3 => have := HLN.out; unfold maxLen; omega
        case c4 => have := HLN.out; omega
        case c5 => have := HB1.out.size; simp; omega
        intro v' w3 hown hgrow _
        have HR3 := hid (rel_app5 HB1.out.size HB1.out HO1.out (Below.refl _ _) hgrow)
        have HO3 := hid hown
        clear hown hgrow z0 z1 z2 z3 z4
        go_wp2_with fail
        go_roundw
        case rel => exact ⟨k + 1, by have := HLT.out; omega, by go_num, hid (own_nextR (x := ((p, q), .slice ra rn rc, .slice pa pn pc, bk)) HO3.out HY2.out), HR3⟩
        case measure => have := HLT.out; simp [intOf]; omega
    · have HTR := hid (show L.take k = L from List.take_of_length_le (by omega))
      rw [HTR.out] at HO
      have hkI : ¬ (k : Int) < (L.length : Int) := by omega
      clear hlt
      go_wp2_with fail
      go_ret
      exact ⟨_, rfl, HO.out, HB.out⟩
theorem where_none (K : Nat) (cb : Array Value) (a : Option Addr) (c : Nat) (w : World) :
    Calls Tryz.prog 126 #[.slice a 0 c, .func (.func K) #[] cb] w fun e w' => e = .returned (.slice none 0 0) ∧ Below w.heap.size w w' := by
  go_enter Tryz.func126, Tryz.ntmps126
  go_wp2_with fail
  go_loopw [5, 10] (fun ov i wr => ov = .slice none 0 0 ∧ i = .int .i64 0 ∧ wr = w) (fun _ i _ => 0)
  case atStart => exact ⟨rfl, rfl, rfl⟩
  case round =>
    obtain ⟨rfl, rfl, rfl⟩ := hrel
    go_wp2_with fail
    go_ret
    exact ⟨rfl, Below.refl _ _⟩
theorem where_any (K : Nat) (cb : Array Value) (P : Raw → Bool) (L : List Raw) (v : Value) (w : World) (eg : ∀ args w, (callFunc K args).run Tryz.prog w = .ok (.enter K args) w) (hL : L.length ≤ 100000) (hv : EsAt w v L)
    (hK : ∀ i (h : i < L.length) W, Below w.heap.size w W → Calls Tryz.prog K (#[rawV L[i]] ++ cb) W fun e w' => e = .returned (.bool (P L[i])) ∧ Below W.heap.size W w') :
    Calls Tryz.prog 126 #[v, .func (.func K) #[] cb] w fun e w' => ∃ v', e = .returned v' ∧ EsAt w' v' (L.filter P) ∧ Below w.heap.size w w' := by
  obtain ⟨a, c, rfl, _, hs, h⟩ := hv
  have hsf : ∀ r, r ∈ L.filter P → slR r := fun r hr => hs r (List.mem_filter.1 hr).1
  cases L with
  | nil => exact (where_none K cb a c w).mono fun e w' ⟨h1, h2⟩ => ⟨_, h1, ⟨none, 0, rfl, Nat.le_refl _, fun r hr => absurd hr (by simp), fun h => absurd rfl h⟩, h2⟩
  | cons x r =>
    obtain ⟨b, o, rfl, h2⟩ := h (by simp)
    exact (where_some K cb P (x :: r) b o c w eg hL hs h2 hK).mono fun e w' ⟨v', h1, h2, h3⟩ => ⟨v', h1, own_es hsf h2, h3⟩
end Ve
end Go.Proofs.YtnkgjddkdikikaaGreatDoor
namespace Go.Proofs.YtnkgjddkdikikaaGreatDoor
open Go.RowKit
namespace Ve
set_option maxHeartbeats 1000000 in
theorem vcheck_is (s : ByteArray) (aT aB : Addr) (m : Int) (w : World) (hs : s.size < 4294967281) (S : Vs w aT aB m) :
    Calls Tryz.prog 32 #[.string s] w fun e w' => e = .returned (errV aT aB (verErr s.data.toList)) ∧ Below w.heap.size w w' := by
  have HC := hid (vsplit_any s aT aB m w hs S)
  clear S
  go_enter Tryz.func32, Tryz.ntmps32
  go_wp2_with fail
  refine HC.out.mono ?_
  rintro e w1 ⟨h1, hb⟩
  have HB := hid hb
  clear hb
  rcases h1 with ⟨h0, rfl⟩ | ⟨h0, v, X, rfl, _, hst⟩
  · obtain ⟨a, ha⟩ := errV_ne aT aB h0
    have HE := hid ha
    rw [ha]
    clear h0 ha
    go_wp2_with fail
    go_ret
    exact ⟨by rw [HE.out]; rfl, HB.out.alloc HB.out.size _⟩
  · obtain ⟨p, n, c, rfl⟩ := hst.slice
    have HE := hid (show errV aT aB (verErr s.data.toList) = .nilIface by rw [h0]; rfl)
    clear h0 hst
    go_wp2_with fail
    go_ret
    exact ⟨by rw [HE.out]; rfl, HB.out.alloc HB.out.size _⟩
set_option maxHeartbeats 1000000 in
theorem hasPre_any (s : ByteArray) (aT aB : Addr) (m : Int) (w : World) (hs : s.size < 4294967281) (S : Vs w aT aB m) :
    Calls Tryz.prog 190 #[.string s] w fun e w' => e = .returned (.bool (preB s)) ∧ Below w.heap.size w w' := by
  have HC := hid (vsplit_any s aT aB m w hs S)
  clear S
  go_enter Tryz.func190, Tryz.ntmps190
  go_wp2_with fail
  refine HC.out.mono ?_
  rintro e w1 ⟨h1, hb⟩
  have HB := hid hb
  clear hb
  rcases h1 with ⟨h0, rfl⟩ | ⟨h0, v, X, rfl, hX, hst⟩
  · have HE := hid (show preB s = false by unfold preB; rw [decide_eq_false h0]; rfl)
    obtain ⟨a, ha⟩ := errV_ne aT aB h0
    rw [ha]
    clear h0 ha
    go_wp2_with fail
    go_ret
    exact ⟨by rw [HE.out]; rfl, HB.out.alloc HB.out.size _⟩
  · obtain ⟨p, c, rfl⟩ := hst.len
    have HE := hid (show preB s = decide (0 < X.length) by
      unfold preB; rw [decide_eq_true h0, ← hX, bl_len]; rfl)
    clear h0 hst hX
    go_wp2_with fail
    go_ret
    refine ⟨?_, HB.out.alloc HB.out.size _⟩
    rw [HE.out]
    simp
set_option maxHeartbeats 2000000 in
theorem ofPathK_any (t : ByteArray) (r : Raw) (hs : slR r) (hz : r.1.2.size < 999999) (aT aB : Addr) (m : Int) (b : Nat) (W : World) (S : Vs W aT aB m) (h0 : W.cell? ⟨b, 0, none⟩ = some (.string t)) :
    Calls Tryz.prog 127 (#[rawV r] ++ #[.pointer (some ⟨b, 0, none⟩)]) W fun e w' => e = .returned (.bool (isP t r)) ∧ Below W.heap.size W w' := by
  obtain ⟨⟨p, v⟩, rv, pv, bk⟩ := r
  obtain ⟨⟨ra, rn, rc, hrv⟩, pa, pn, pc, hpv⟩ := hs
  simp only at hrv hpv hz
  subst hrv
  subst hpv
  show Calls Tryz.prog 127 #[.agg #[.string p, .string v, .slice ra rn rc, .slice pa pn pc, .bool bk], .pointer (some ⟨b, 0, none⟩)] W _
  have HI := hid (show isP t ((p, v), .slice ra rn rc, .slice pa pn pc, bk) = (decide (p = t) && decide (verErr v.data.toList = 0)) from rfl)
  have HB0 := hid ((Below.refl W.heap.size W).alloc (Nat.le_refl _) (.cells #[.string p, .string v, .slice ra rn rc, .slice pa pn pc, .bool bk] 42))
  have c0 := cell_below HB0.out h0
  have hbb : ¬ b = W.heap.size := by have := lt_of_cell h0; simp at this; omega
  have hbb2 : ¬ W.heap.size = b := fun h => hbb h.symm
  have HS := hid (S.below HB0.out)
  have HV := hid (fun W' (SW : Vs W' aT aB m) => vcheck_is v aT aB m W' (by omega) SW)
  generalize isP t ((p, v), .slice ra rn rc, .slice pa pn pc, bk) = z at *
  clear S
  by_cases h : p = t
  · rw [decide_eq_true h, Bool.true_and] at HI
    have hq : (p.toList == t.toList) = true := by rw [h]; exact str_refl t
    by_cases h1 : verErr v.data.toList = 0
    · rw [decide_eq_true h1] at HI
      have hz1 := HI.out
      subst hz1
      have HE := hid (show errV aT aB (verErr v.data.toList) = .nilIface by rw [h1]; rfl)
      rw [HE.out] at HV
      clear h h1 HI
      go_enter Tryz.func127, Tryz.ntmps127
      go_wp2_with fail
      refine (HV.out _ HS.out).mono ?_
      rintro e w1 ⟨rfl, hb⟩
      have HB := hid (HB0.out.trans (hb.mono HB0.out.size))
      clear hb
      go_wp2_with fail
      go_ret
      exact ⟨rfl, HB.out⟩
    · rw [decide_eq_false h1] at HI
      have hz1 := HI.out
      subst hz1
      obtain ⟨a, ha⟩ := errV_ne aT aB h1
      rw [ha] at HV
      clear h h1 HI ha
      go_enter Tryz.func127, Tryz.ntmps127
      go_wp2_with fail
      refine (HV.out _ HS.out).mono ?_
      rintro e w1 ⟨rfl, hb⟩
      have HB := hid (HB0.out.trans (hb.mono HB0.out.size))
      clear hb
      go_wp2_with fail
      go_ret
      exact ⟨rfl, HB.out⟩
  · rw [decide_eq_false h, Bool.false_and] at HI
    have hz1 := HI.out
    subst hz1
    have hq := str_ne h
    clear h HI
    go_enter Tryz.func127, Tryz.ntmps127
    go_wp2_with fail
    go_ret
    exact ⟨rfl, HB0.out⟩
set_option maxHeartbeats 1000000 in
theorem ofPath_any (L : List Raw) (t : ByteArray) (v : Value) (aT aB : Addr) (m : Int) (w : World) (hL : L.length ≤ 100000) (hz : shortR L) (S : Vs w aT aB m) (hv : EsAt w v L) :
    Calls Tryz.prog 59 #[v, .string t] w fun e w' => ∃ v', e = .returned v' ∧ EsAt w' v' (L.filter (isP t)) ∧ Below w.heap.size w w' := by
  obtain ⟨a, c, hv1, _, hs, _⟩ := id hv
  have HB0 := hid ((Below.refl w.heap.size w).alloc (Nat.le_refl _) (.cells #[.string t] 9))
  have eg : ∀ args w, (callFunc 127 args).run Tryz.prog w = .ok (.enter 127 args) w := enters_of Tryz.func127 (by kernel_rfl) rfl
  have HF := hid (where_any 127 #[.pointer (some ⟨w.heap.size, 0, none⟩)] (isP t) L v (w.alloc (.cells #[.string t] 9)) eg hL (hv.below HB0.out) (fun i hi W hW =>
    ofPathK_any t L[i] (hs L[i] (List.getElem_mem hi)) (hz L[i] (List.getElem_mem hi)).2 aT aB m w.heap.size W ((S.below HB0.out).below hW) (cell_below hW (by simp))))
  subst hv1
  clear hv hs eg S
  go_enter Tryz.func59, Tryz.ntmps59
  go_wp2_with fail
  refine HF.out.mono ?_
  rintro e w1 ⟨v', rfl, he, hb⟩
  obtain ⟨a1, c1, e1, _⟩ := id he
  have HE := hid he
  have HB := hid (HB0.out.trans (hb.mono HB0.out.size))
  subst e1
  clear hb he
  go_wp2_with fail
  go_ret
  exact ⟨_, rfl, HE.out, HB.out⟩
set_option maxHeartbeats 1000000 in
theorem bestA_any (r : Raw) (hs : slR r) (W : World) : Calls Tryz.prog 188 (#[rawV r] ++ #[]) W fun e w' => e = .returned (.bool (isS r)) ∧ Below W.heap.size W w' := by
  obtain ⟨⟨p, v⟩, rv, pv, bk⟩ := r
  obtain ⟨⟨ra, rn, rc, hrv⟩, pa, pn, pc, hpv⟩ := hs
  simp only at hrv hpv
  subst hrv
  subst hpv
  show Calls Tryz.prog 188 #[.agg #[.string p, .string v, .slice ra rn rc, .slice pa pn pc, .bool bk]] W fun e w' => e = .returned (.bool (!bk)) ∧ Below W.heap.size W w'
  have HB0 := hid ((Below.refl W.heap.size W).alloc (Nat.le_refl _) (.cells #[.string p, .string v, .slice ra rn rc, .slice pa pn pc, .bool bk] 42))
  go_enter Tryz.func188, Tryz.ntmps188
  go_wp2_with fail
  go_ret
  exact ⟨rfl, HB0.out⟩
set_option maxHeartbeats 1000000 in
theorem bestB_any (r : Raw) (hs : slR r) (hz : r.1.2.size < 999999) (aT aB : Addr) (m : Int) (W : World) (S : Vs W aT aB m) : Calls Tryz.prog 189 (#[rawV r] ++ #[]) W fun e w' => e = .returned (.bool (isD r)) ∧ Below W.heap.size W w' := by
  obtain ⟨⟨p, v⟩, rv, pv, bk⟩ := r
  obtain ⟨⟨ra, rn, rc, hrv⟩, pa, pn, pc, hpv⟩ := hs
  simp only at hrv hpv hz
  subst hrv
  subst hpv
  show Calls Tryz.prog 189 #[.agg #[.string p, .string v, .slice ra rn rc, .slice pa pn pc, .bool bk]] W fun e w' => e = .returned (.bool (!preB v)) ∧ Below W.heap.size W w'
  have HB0 := hid ((Below.refl W.heap.size W).alloc (Nat.le_refl _) (.cells #[.string p, .string v, .slice ra rn rc, .slice pa pn pc, .bool bk] 42))
  have HH := hid (hasPre_any v aT aB m _ (by omega) (S.below HB0.out))
  generalize preB v = z at *
  clear S
  go_enter Tryz.func189, Tryz.ntmps189
  go_wp2_with fail
  refine HH.out.mono ?_
  rintro e w1 ⟨rfl, hb⟩
  have HB := hid (HB0.out.trans (hb.mono HB0.out.size))
  clear hb
  go_wp2_with fail
  go_ret
  exact ⟨rfl, HB.out⟩
set_option maxHeartbeats 1000000 in
theorem best_any (L : List Raw) (v : Value) (aT aB : Addr) (m : Int) (w : World) (hL : L.length ≤ 100000) (hz : shortR L) (S : Vs w aT aB m) (hv : EsAt w v L) :
    Calls Tryz.prog 128 #[v] w fun e w' => ∃ v', e = .returned v' ∧ EsAt w' v' (bestR L) ∧ Below w.heap.size w w' := by
  obtain ⟨a, c, hv1, _, hs, _⟩ := id hv
  have egA : ∀ args w, (callFunc 188 args).run Tryz.prog w = .ok (.enter 188 args) w := enters_of Tryz.func188 (by kernel_rfl) rfl
  have egB : ∀ args w, (callFunc 189 args).run Tryz.prog w = .ok (.enter 189 args) w := enters_of Tryz.func189 (by kernel_rfl) rfl
  have HF := hid (where_any 188 #[] isS L v w egA hL hv (fun i hi W hW => bestA_any L[i] (hs L[i] (List.getElem_mem hi)) W))
  have HG := hid (fun W (SW : Vs W aT aB m) v' (hv' : EsAt W v' (L.filter isS)) => where_any 189 #[] isD (L.filter isS) v' W egB (Nat.le_trans (List.length_filter_le _ _) hL) hv' (fun i hi W' hW => bestB_any (L.filter isS)[i] (hs _ (List.mem_filter.1 (List.getElem_mem hi)).1) (hz.filter isS _ (List.getElem_mem hi)).2 aT aB m W' (SW.below hW)))
  have HV := hid hv
  have HS := hid S
  subst hv1
  clear hv hs egA egB S
  go_enter Tryz.func128, Tryz.ntmps128
  go_wp2_with fail
  refine HF.out.mono ?_
  rintro e w1 ⟨v1, rfl, h1, hb⟩
  obtain ⟨a1, c1, e1, _⟩ := id h1
  have HE1 := hid h1
  have HB1 := hid hb
  subst e1
  clear hb h1
  go_wp2_with fail
  refine (HG.out w1 (HS.out.below HB1.out) _ HE1.out).mono ?_
  rintro e w2 ⟨v2, rfl, h2, hb⟩
  obtain ⟨a2, c2, e2, _⟩ := id h2
  have HE2 := hid h2
  have HB2 := hid (HB1.out.trans (hb.mono HB1.out.size))
  have HE3 := hid (HE1.out.below hb)
  subst e2
  clear hb h2
  have HR := hid (show bestR L = if 0 < ((L.filter isS).filter isD).length then (L.filter isS).filter isD else if 0 < (L.filter isS).length then L.filter isS else L from rfl)
  clear HF HG HE1
  generalize (L.filter isS).filter isD = D at *
  generalize L.filter isS = Q at *
  by_cases p1 : 0 < D.length
  · have q1 : (0 : Int) < (D.length : Int) := by omega
    rw [if_pos p1] at HR
    clear p1
    go_wp2_with fail
    go_ret
    exact ⟨_, rfl, by rw [HR.out]; exact HE2.out, HB2.out⟩
  · have q1 : ¬ (0 : Int) < (D.length : Int) := by omega
    rw [if_neg p1] at HR
    by_cases p2 : 0 < Q.length
    · have q2 : (0 : Int) < (Q.length : Int) := by omega
      rw [if_pos p2] at HR
      clear p1 p2
      go_wp2_with fail
      go_ret
      exact ⟨_, rfl, by rw [HR.out]; exact HE3.out, HB2.out⟩
    · have q2 : ¬ (0 : Int) < (Q.length : Int) := by omega
      rw [if_neg p2] at HR
      clear p1 p2
      go_wp2_with fail
      go_ret
      exact ⟨_, rfl, by rw [HR.out]; exact HV.out.below HB2.out, HB2.out⟩
end Ve
end Go.Proofs.YtnkgjddkdikikaaGreatDoor
namespace Go.Proofs.YtnkgjddkdikikaaGreatDoor
open Go.RowKit Go.Maps
namespace Ve
theorem pw_ext {α : Type} {r : α → α → Prop} (irr : ∀ a, ¬ r a a) (asy : ∀ a b, r a b → ¬ r b a) : ∀ {E F : List α}, E.Pairwise r → F.Pairwise r → (∀ m, m ∈ E ↔ m ∈ F) → E = F
  | [], [], _, _, _ => rfl
  | [], f :: F, _, _, h => by have := (h f).2 (by simp); cases this
  | e :: E, [], _, _, h => by have := (h e).1 (by simp); cases this
  | e :: E, f :: F, hE, hF, h => by
    obtain ⟨hE1, hE2⟩ := List.pairwise_cons.1 hE
    obtain ⟨hF1, hF2⟩ := List.pairwise_cons.1 hF
    have hef : e = f := by
      rcases List.mem_cons.1 ((h e).1 (by simp)) with a | a
      · exact a
      · rcases List.mem_cons.1 ((h f).2 (by simp)) with b | b
        · exact b.symm
        · exact absurd (hE1 f b) (asy _ _ (hF1 e a))
    subst hef
    have : E = F := pw_ext irr asy hE2 hF2 fun m => by
      constructor
      · intro hm
        rcases List.mem_cons.1 ((h m).1 (List.mem_cons_of_mem _ hm)) with a | a
        · subst a; exact absurd (hE1 m hm) (irr _)
        · exact a
      · intro hm
        rcases List.mem_cons.1 ((h m).2 (List.mem_cons_of_mem _ hm)) with a | a
        · subst a; exact absurd (hF1 m hm) (irr _)
        · exact a
    rw [this]
theorem kept_one {L : List ByteArray} {n : Nat} {X Y : List ByteArray} (hX : Kept L n X) (hY : Kept L n Y) : X = Y := by
  have h : bl X = bl Y := pw_ext (r := fun s t => ordV s t < 0) (fun a h => ordV_irr h h) (fun a b h => ordV_irr h) hX.1 hY.1 fun t => by rw [hX.2, hY.2]
  exact (List.map_inj_right (fun x y e => str_ext e)).1 h
end Ve
end Go.Proofs.YtnkgjddkdikikaaGreatDoor
namespace Go.Proofs.YtnkgjddkdikikaaGreatDoor
open Go.RowKit
namespace Ve
set_option maxHeartbeats 400000 in
theorem text_pbad (a b c : Int) (v : Value) (q : Nat) (aT aB : Addr) (w : World) (ha : inBB a = true) (hb : inBB b = true) (hc : inBB c = true) (hq : q = 1 ∨ q = 2)
    (hpre : ∀ W, Below w.heap.size w W → Calls Tryz.prog 68 #[v] W fun e w' => e = .returned (errV aT aB q) ∧ Below W.heap.size W w') :
    Calls Tryz.prog 187 #[.agg #[.int .i64 a, .int .i64 b, .int .i64 c, v]] w fun e w' => e = .returned (.string ⟨#[]⟩) ∧ Below w.heap.size w w' := by
  have HA := hid (fun W => inB_any a W)
  have HB := hid (fun W => inB_any b W)
  have HC := hid (fun W => inB_any c W)
  rw [ha] at HA
  rw [hb] at HB
  rw [hc] at HC
  have HP := hid hpre
  have HB0 := hid ((Below.refl w.heap.size w).alloc (Nat.le_refl _) (.cells #[.int .i64 a, .int .i64 b, .int .i64 c, v] 37))
  clear ha hb hc hpre
  go_enter Tryz.func187, Tryz.ntmps187
  go_wp2_with fail
  refine (HA.out _).mono ?_
  rintro e w' ⟨rfl, rfl⟩
  go_wp2_with fail
  refine (HB.out _).mono ?_
  rintro e w' ⟨rfl, rfl⟩
  go_wp2_with fail
  refine (HC.out _).mono ?_
  rintro e w' ⟨rfl, rfl⟩
  go_wp2_with fail
  refine (HP.out _ HB0.out).mono ?_
  rintro e w1 ⟨rfl, hb1⟩
  have HB1 := hid (HB0.out.trans (hb1.mono (by simp)))
  clear hb1
  rcases hq with rfl | rfl
  · rw [errV1]
    go_wp2_with fail
    go_ret
    exact ⟨rfl, HB1.out⟩
  · rw [errV2]
    go_wp2_with fail
    go_ret
    exact ⟨rfl, HB1.out⟩
theorem text_any (a b c : Int) (X : List ByteArray) (v : Value) (aT aB : Addr) (m : Int) (w : World) (S : Vs w aT aB m) (htab : Lib.TabIs Tryz.prog w powName .u64 Lib.pow10Tab) (hX : X.length ≤ 1000) (hXz : ∀ x, x ∈ X → x.size ≤ maxLen)
    (hlen : (preText (bl X)).length ≤ 1000000)
    (hv : (X = [] ∧ v = .slice none 0 0) ∨ (X ≠ [] ∧ ∃ bk cp, v = .slice (some ⟨bk, 0, none⟩) X.length cp ∧ X.length ≤ cp ∧ bk < w.heap.size ∧ ∀ j (h : j < X.length), w.cell? ⟨bk, 0 + j, none⟩ = some (.string X[j]))) :
    Calls Tryz.prog 187 #[.agg #[.int .i64 a, .int .i64 b, .int .i64 c, v]] w fun e w' => ∃ T : ByteArray, e = .returned (.string T) ∧ T.data.toList = textOf a b c (bl X) ∧ Below w.heap.size w w' := by
  have hpre : ∀ W, Below w.heap.size w W → Calls Tryz.prog 68 #[v] W fun e w' => e = .returned (errV aT aB (pre (bl X))) ∧ Below W.heap.size W w' := by
    intro W hW
    rcases hv with ⟨h1, h2⟩ | ⟨h1, bk, cp, h2, h3, h4, h5⟩
    · subst h1; subst h2
      exact pre_nil none 0 aT aB W
    · subst h2
      exact pre_some bk 0 cp X aT aB m W (S.below hW) (by omega) hXz (fun j h => cell_below hW (h5 j h))
  cases hn : (inBB a && inBB b && inBB c)
  · refine (text_nums a b c v w hn).mono fun e w' ⟨h1, h2⟩ => ⟨_, h1, ?_, h2⟩
    rw [textOf_pre, hn]; rfl
  · simp only [Bool.and_eq_true] at hn
    obtain ⟨⟨ha, hb⟩, hc⟩ := hn
    rcases pre_err (bl X) with h0 | h0
    · rw [h0] at hpre
      have hT : textOf a b c (bl X) = core3 a b c ++ preText (bl X) := by rw [textOf_pre, ha, hb, hc, h0]; rfl
      rw [hT]
      rcases hv with ⟨h1, h2⟩ | ⟨h1, bk, cp, h2, h3, h4, h5⟩
      · subst h1; subst h2
        refine (text_none a b c w ha hb hc htab hpre).mono fun e w' ⟨T, e1, e2, e3⟩ => ⟨T, e1, ?_, e3⟩
        rw [e2]; simp [bl, preText]
      · subst h2
        have hj : preText (bl X) = [45] ++ Lib.join (bl X) [46] := by
          cases X with
          | nil => exact absurd rfl h1
          | cons x r => rfl
        refine (text_some a b c bk cp X w hX h3 h1 h4 h5 (by rw [hj] at hlen; simp at hlen; omega) ha hb hc htab hpre).mono fun e w' ⟨T, e1, e2, e3⟩ => ⟨T, e1, ?_, e3⟩
        rw [e2, hj, List.append_assoc]
    · refine (text_pbad a b c v (pre (bl X)) aT aB w ha hb hc h0 hpre).mono fun e w' ⟨h1, h2⟩ => ⟨_, h1, ?_, h2⟩
      rw [textOf_pre]
      rcases h0 with h | h <;> rw [h] <;> simp
end Ve
end Go.Proofs.YtnkgjddkdikikaaGreatDoor
