/-
  IxL IxO IxS
-/
import Derived.Test.YtnkgjddkdikikaaGreatDoorPq3
import Derived.Test.YtnkgjddkdikikaaGreatDoorPq4
import Derived.Test.YtnkgjddkdikikaaGreatDoorPq7
import Derived.Test.YtnkgjddkdikikaaGreatDoorPq10
import Derived.Test.YtnkgjddkdikikaaGreatDoorPq13
import Derived.Test.YtnkgjddkdikikaaGreatDoorPq2
import Derived.Test.YtnkgjddkdikikaaGreatDoorPq23
import Derived.Test.YtnkgjddkdikikaaGreatDoorPq27
import Derived.Lib.AppendZeros
import Derived.Sort.OwnSorted
import Derived.Test.YtnkgjddkdikikaaGreatDoorPq21
namespace Go.Proofs.YtnkgjddkdikikaaGreatDoor
open Go.RowKit
namespace Ve
abbrev Ent := Bm × List Bm × List ByteArray × Bool
structure RawOk (w : World) (r : Raw) (e : Ent) : Prop where
  m : r.1 = e.1
  rq : MsAt w r.2.1 e.2.1
  pk : TxAt w r.2.2.1 e.2.2.1
  bk : r.2.2.2 = e.2.2.2
theorem RawOk.below {w w' : World} {r : Raw} {e : Ent} (h : RawOk w r e) (hb : Below w.heap.size w w') : RawOk w' r e := ⟨h.m, h.rq.below hb, h.pk.below hb, h.bk⟩
structure Ixs (w : World) (v : Value) (Q : List Raw) (L : List Ent) : Prop where
  es : EsAt w v Q
  ln : Q.length = L.length
  ok : ∀ j (h : j < Q.length) (h' : j < L.length), RawOk w Q[j] L[j]
theorem Ixs.below {w w' : World} {v : Value} {Q : List Raw} {L : List Ent} (h : Ixs w v Q L) (hb : Below w.heap.size w w') : Ixs w' v Q L := ⟨h.es.below hb, h.ln, fun j h1 h2 => (h.ok j h1 h2).below hb⟩
def okP (X : List ByteArray) : Bool := X.all fun x => decide (x.size ≤ 70)
def okE (e : Ent) : Bool := decide (e.1.1.size ≤ 70) && decide (e.1.2.size ≤ 60) && okL e.2.1 && decide (e.2.2.1.length ≤ 15) && okP e.2.2.1
def okN (n : Nat) : Bool := decide (n ≤ 30) || decide (n = 101)
def okI (L : List Ent) : Bool := okN L.length && L.all okE
def pfxE (L : List Ent) (k : Nat) : Bool := (L.take k).all okE
theorem okE_next {L : List Ent} {k : Nat} (hk : k < L.length) (h : pfxE L k = true) (hm : okE L[k] = true) : pfxE L (k + 1) = true := by
  unfold pfxE at h ⊢
  rw [List.take_succ_eq_append_getElem hk, List.all_append, h]
  simp [hm]
theorem okE_not {L : List Ent} {k : Nat} (hk : k < L.length) (hm : okE L[k] = false) : L.all okE = false := by
  cases e : L.all okE
  · rfl
  · have := List.all_eq_true.1 e L[k] (List.getElem_mem hk)
    rw [hm] at this; cases this
theorem okP_next {X : List ByteArray} {k : Nat} (hk : k < X.length) (h : okP (X.take k) = true) (hm : X[k].size ≤ 70) : okP (X.take (k + 1)) = true := by
  unfold okP at h ⊢
  rw [List.take_succ_eq_append_getElem hk, List.all_append, h]
  simp [hm]
theorem okP_not {X : List ByteArray} {k : Nat} (hk : k < X.length) (hm : ¬ X[k].size ≤ 70) : okP X = false := by
  cases e : okP X
  · rfl
  · have := List.all_eq_true.1 e X[k] (List.getElem_mem hk)
    exact absurd (of_decide_eq_true this) hm
theorem longI_many (a : Option Addr) (n c : Nat) (w : World) (h : okN n = false) : Calls Tryz.prog 13 #[.slice a n c] w fun e w' => e = .returned (.int .i64 1) ∧ Below w.heap.size w w' := by
  unfold okN at h
  rw [Bool.or_eq_false_iff] at h
  have h1 := of_decide_eq_false h.1
  have h2 := of_decide_eq_false h.2
  have q1 : (30 : Int) < (n : Int) := by omega
  have q2 : ((n : Int) != 101) = true := bne_iff_ne.2 (by omega)
  clear h h1 h2
  go_enter Tryz.func13, Tryz.ntmps13
  go_wp2_with fail
  go_ret
  exact ⟨rfl, Below.refl _ _⟩
theorem okN_yes {n : Nat} (h : okN n = true) : ¬ (30 : Int) < (n : Int) ∨ ((30 : Int) < (n : Int) ∧ ((n : Int) != 101) = false) := by
  unfold okN at h
  rw [Bool.or_eq_true] at h
  rcases h with h | h
  · left; have := of_decide_eq_true h; omega
  · right
    have := of_decide_eq_true h
    exact ⟨by omega, by rw [bne, beq_iff_eq.2 (show (n : Int) = 101 by omega)]; rfl⟩
set_option maxHeartbeats 8000000 in
set_option maxRecDepth 100000 in
theorem longI_any (Q : List Raw) (L : List Ent) (v : Value) (w : World) (I : Ixs w v Q L) : Calls Tryz.prog 13 #[v] w fun e w' => e = .returned (.int .i64 (if okI L then 0 else 1)) ∧ Below w.heap.size w w' := by
  obtain ⟨a, c, rfl, _, hs, hc⟩ := id I.es
  by_cases hn : okN Q.length = true
  · have HO := hid (show okI L = L.all okE by unfold okI; rw [← I.ln, hn, Bool.true_and])
    generalize hr : (if okI L then (0 : Int) else 1) = r
    have HR := hid hr
    have HI := hid I
    have hln := I.ln
    have hqn : Q.length ≤ 101 := by
      unfold okN at hn
      rw [Bool.or_eq_true] at hn
      rcases hn with h | h
      · have := of_decide_eq_true h; omega
      · have := of_decide_eq_true h; omega
    have HC := hid hc
    have HSL := hid hs
    clear I hr hc hs
    rcases okN_yes hn with h0 | ⟨h0, h0'⟩
    all_goals
      clear hn
      go_enter Tryz.func13, Tryz.ntmps13
      go_wp2_with fail
      go_loopw [3] (fun i wr => ∃ k : Nat, k ≤ L.length ∧ i = .int .i64 k ∧ Hid (pfxE L k = true) ∧ Hid (Below w.heap.size w wr)) (fun i _ => L.length - (intOf i).toNat)
      case atStart => exact ⟨0, Nat.zero_le _, rfl, hid rfl, hid (Below.refl _ _)⟩
      case round =>
        obtain ⟨k, hk, rfl, HA, HB⟩ := hrel
        by_cases hlt : k < L.length
        · have hkq : k < Q.length := by omega
          have hO := HI.out.ok k hkq hlt
          obtain ⟨b, o, ha, hcc⟩ := HC.out (by intro h; rw [h] at hkq; simp at hkq)
          subst ha
          obtain ⟨y0, y1, y2, y3, y4⟩ := hcc k hkq
          have x0 := cell_below HB.out y0
          have x1 := cell_below HB.out y1
          have x2 := cell_below HB.out y2
          have x3 := cell_below HB.out y3
          have y3' := y3
          have hkI : (k : Int) < (Q.length : Int) := by omega
          have HLT := hid hlt
          have HN := hid (fun h => okE_next hlt HA.out h)
          have HXX := hid (fun h => okE_not hlt h)
          clear hcc y0 y1 y2 y3 y4
          generalize L[k] = e at *
          generalize Q[k] = r at *
          clear hlt hkq
          obtain ⟨⟨p, q⟩, rv, pv, bk⟩ := r
          obtain ⟨⟨p', q'⟩, eR, eP, bk'⟩ := e
          obtain ⟨hm, hrq, hpk, _⟩ := hO
          simp only at hm hrq hpk x0 x1 x2 x3 y3'
          obtain ⟨rfl, rfl⟩ : p = p' ∧ q = q' := by injection hm with h1 h2; exact ⟨h1, h2⟩
          have HL := hid (long_any eR rv wr (hrq.below HB.out))
          obtain ⟨ra, rc, hrv, _⟩ := id hrq
          obtain ⟨pa, pc, hpv, _, hpc⟩ := id hpk
          subst hrv
          subst hpv
          have HPK := hid hpc
          clear hm hrq hpk hpc
          have HE := hid (show okE ((p, q), eR, eP, bk') = (decide (p.size ≤ 70) && decide (q.size ≤ 60) && okL eR && decide (eP.length ≤ 15) && okP eP) from rfl)
          by_cases h1 : p.size ≤ 70
          · have q1 : decide ((70 : Int) < (p.size : Int)) = false := decide_eq_false (by omega)
            by_cases h2 : q.size ≤ 60
            · have q2 : decide ((60 : Int) < (q.size : Int)) = false := decide_eq_false (by omega)
              cases h3 : okL eR
              · have HX := hid (HXX.out (by rw [HE.out, h3, Bool.and_false, Bool.false_and, Bool.false_and]))
                rw [h3] at HL
                clear h1 h2 h3
                go_wp2_with fail
                refine HL.out.mono ?_
                rintro e w1 ⟨rfl, rfl⟩
                go_wp2_with fail
                go_ret
                exact ⟨by rw [← HR.out, HO.out, HX.out]; rfl, HB.out⟩
              · rw [h3] at HL
                by_cases h4 : eP.length ≤ 15
                · have q4 : decide ((15 : Int) < (eP.length : Int)) = false := decide_eq_false (by omega)
                  have HE2 := hid (show okE ((p, q), eR, eP, bk') = okP eP by rw [HE.out, decide_eq_true h1, decide_eq_true h2, h3, decide_eq_true h4]; rfl)
                  have hp15 := h4
                  clear h1 h2 h3 h4
                  go_wp2_with fail
                  refine HL.out.mono ?_
                  rintro e w1 ⟨rfl, rfl⟩
                  go_wp2_with fail
                  go_loopw [4] (fun i wr' => ∃ k' : Nat, k' ≤ eP.length ∧ i = .int .i64 k' ∧ Hid (okP (eP.take k') = true) ∧ Hid (Below w.heap.size w wr')) (fun i _ => eP.length - (intOf i).toNat)
                  case atStart => exact ⟨0, Nat.zero_le _, rfl, hid rfl, HB⟩
                  case round =>
                    obtain ⟨k', hk', rfl, HA', HBq⟩ := hrel
                    have x3' := cell_below HBq.out y3'
                    by_cases hlt' : k' < eP.length
                    · obtain ⟨b', o', ha', hp'⟩ := HPK.out (by intro h; rw [h] at hlt'; simp at hlt')
                      subst ha'
                      have z := cell_below HBq.out (hp' k' hlt')
                      have hkI' : (k' : Int) < (eP.length : Int) := by omega
                      have HLT' := hid hlt'
                      have HN' := hid (fun h => okP_next hlt' HA'.out h)
                      have HX' := hid (fun h => okP_not hlt' h)
                      generalize eP[k'] = x at *
                      clear hp' hlt'
                      by_cases h5 : x.size ≤ 70
                      · have q5 : ¬ (70 : Int) < (x.size : Int) := by omega
                        have HN2 := hid (HN'.out h5)
                        clear h5
                        go_wp2_with fail
                        go_roundw
                        case rel => exact ⟨k' + 1, by have := HLT'.out; omega, by go_num, HN2, HBq⟩
                        case measure => have := HLT'.out; simp [intOf]; omega
                      · have q5 : (70 : Int) < (x.size : Int) := by omega
                        have HX := hid (HXX.out (by rw [HE2.out, HX'.out h5]))
                        clear h5
                        go_wp2_with fail
                        go_ret
                        exact ⟨by rw [← HR.out, HO.out, HX.out]; rfl, HBq.out⟩
                    · have HT' := hid (show okP eP = true by have := HA'.out; rw [List.take_of_length_le (by omega)] at this; exact this)
                      have HN2 := hid (HN.out (by rw [HE2.out, HT'.out]))
                      have hkI' : ¬ (k' : Int) < (eP.length : Int) := by omega
                      clear hlt'
                      go_wp2_with fail
                      go_roundw
                      case rel => first | exact ⟨k + 1, by have := HLT.out; omega, by go_num, HN2, HBq⟩ | exact ⟨k + 1, by have := HLT.out; omega, by omega, HN2⟩
                      case measure => have := HLT.out; simp [intOf]; omega
                · have q4 : decide ((15 : Int) < (eP.length : Int)) = true := decide_eq_true (by omega)
                  have HX := hid (HXX.out (by rw [HE.out, decide_eq_false h4, Bool.and_false, Bool.false_and]))
                  clear h1 h2 h3 h4
                  go_wp2_with fail
                  refine HL.out.mono ?_
                  rintro e w1 ⟨rfl, rfl⟩
                  go_wp2_with fail
                  go_ret
                  exact ⟨by rw [← HR.out, HO.out, HX.out]; rfl, HB.out⟩
            · have q2 : decide ((60 : Int) < (q.size : Int)) = true := decide_eq_true (by omega)
              have HX := hid (HXX.out (by rw [HE.out, decide_eq_false h2, Bool.and_false, Bool.false_and, Bool.false_and, Bool.false_and]))
              clear h1 h2
              go_wp2_with fail
              go_ret
              exact ⟨by rw [← HR.out, HO.out, HX.out]; rfl, HB.out⟩
          · have q1 : decide ((70 : Int) < (p.size : Int)) = true := decide_eq_true (by omega)
            have HX := hid (HXX.out (by rw [HE.out, decide_eq_false h1, Bool.false_and, Bool.false_and, Bool.false_and, Bool.false_and]))
            clear h1
            go_wp2_with fail
            go_ret
            exact ⟨by rw [← HR.out, HO.out, HX.out]; rfl, HB.out⟩
        · have HT := hid (show L.all okE = true by have := HA.out; unfold pfxE at this; rw [List.take_of_length_le (by omega)] at this; exact this)
          have hkI : ¬ (k : Int) < (Q.length : Int) := by omega
          go_wp2_with fail
          go_ret
          exact ⟨by rw [← HR.out, HO.out, HT.out]; rfl, HB.out⟩
  · have hf : okN Q.length = false := by simpa using hn
    have : okI L = false := by unfold okI; rw [← I.ln, hf]; rfl
    rw [this]
    exact longI_many a Q.length c w hf
end Ve
end Go.Proofs.YtnkgjddkdikikaaGreatDoor
namespace Go.Proofs.YtnkgjddkdikikaaGreatDoor
open Go.RowKit
namespace Ve
def EmT (v : Value) (X : List ByteArray) : Prop := ∀ a c, v = .slice a X.length c → X = [] → (Value.slice a 0 c = .slice none 0 0 ∨ ∃ a', Value.slice a 0 c = .slice (some a') 0 c)
theorem packs_run (X : List ByteArray) (pv : Value) (W : World) (B : Nat) (hB : B ≤ W.heap.size) (hn : X.length ≤ 1000) (h : TxAt W pv X) (he : EmT pv X) :
    ∃ v' W', (Builtin.append_ #[29, 29] 29 #[.slice none 0 0, pv]).run Tryz.prog W = .ok v' W' ∧ W'.ownsRow B 9 1 v' X.length (X.map Value.string) ∧ W.grownBy W' none := by
  obtain ⟨i0, hi, hz0, hz1, hz2⟩ := info_parts infoStr
  obtain ⟨a, c, rfl, hc, h2⟩ := h
  cases X with
  | nil =>
    rcases he a c rfl rfl with hz | ⟨a', hz⟩
    · refine ⟨.slice none 0 0, W, ?_, World.ownsRow_nil _ _ _ _, ⟨rfl, rfl, rfl, Nat.le_refl _, fun _ _ _ => rfl⟩⟩
      show (Builtin.append_ #[29, 29] 29 #[.slice none 0 0, .slice a 0 c]).run Tryz.prog W = _
      rw [hz]
      simp [Builtin.append_, run_underlying Tryz.underlying29, Builtin.lenOf, Builtin.firstCells, Go.sizeOf, typeInfo, hi]
    · refine ⟨.slice none 0 0, W, ?_, World.ownsRow_nil _ _ _ _, ⟨rfl, rfl, rfl, Nat.le_refl _, fun _ _ _ => rfl⟩⟩
      show (Builtin.append_ #[29, 29] 29 #[.slice none 0 0, .slice a 0 c]).run Tryz.prog W = _
      rw [hz]
      have hl : (loadCells a' 0).run Tryz.prog W = .ok #[] W := by simpa using run_loadCells_list (P := Tryz.prog) W a' [] (by simp)
      simp [Builtin.append_, run_underlying Tryz.underlying29, Builtin.lenOf, Builtin.firstCells, Go.sizeOf, typeInfo, hi, hl]
  | cons x r =>
    obtain ⟨b, o, rfl, hcell⟩ := h2 (by simp)
    obtain ⟨g, cap, w', hr, h3, h4, _, _⟩ := run_append_lies (P := Tryz.prog) W 29 29 B 9 i0 (.string ByteArray.empty) 1 16 Tryz.underlying29 hi hz0 hz1 hz2 rfl (by decide) (.slice none 0 0) 0 [] (World.ownsRow_nil _ _ _ _)
      ⟨b, o, none⟩ (x :: r).length c ((x :: r).map Value.string) (by simp) (fun j u hj => by
        rw [Addr.add_lit]
        obtain ⟨hj1, hj2⟩ := List.getElem?_eq_some_iff.1 hj
        have hj3 : j < (x :: r).length := by simpa using hj1
        have := hcell j hj3
        rw [this, ← hj2]; exact congrArg some (List.getElem_map ..).symm) (fun u hu => by
        obtain ⟨y, _, rfl⟩ := List.mem_map.1 hu
        rfl) (by simp) (by unfold maxLen; omega) (by omega) hB W.heap.size rfl
    rw [Nat.zero_add, List.nil_append] at h3
    rw [Nat.zero_add] at hr
    exact ⟨_, _, hr, h3, h4⟩
theorem own_slN {W : World} {B n k : Nat} {e : TypeId} {v : Value} {xs : List Value} (h : W.ownsRow B e k v n xs) : ∃ a c, v = .slice a n c := by
  obtain ⟨_, ⟨hv, hn0⟩ | ⟨g, cap, cur, hv, _⟩⟩ := h
  · exact ⟨none, 0, by rw [hv, hn0]⟩
  · exact ⟨_, _, hv⟩
theorem own_kind {W W3 : World} {B B' k k' n n' : Nat} {e e' : TypeId} {v v' : Value} {xs xs' : List Value} (h : W.ownsRow B e k v n xs) (hg : W.grownBy W3 v'.ownBlock) (h' : W.ownsRow B' e' k' v' n' xs') (hne : e ≠ e') : W3.ownsRow B e k v n xs := by
  obtain ⟨hl, h | ⟨g, cap, cur, e1, e2, e3, e4, e5, e6, e7⟩⟩ := h
  · exact ⟨hl, Or.inl h⟩
  · refine ⟨hl, Or.inr ⟨g, cap, cur, e1, e2, ?_, e4, e5, e6, e7⟩⟩
    rw [hg.block g (lt_of_blk e3) (fun hh => ?_)]; exact e3
    obtain ⟨_, ⟨hv, _⟩ | ⟨g', cap', cur', hv, _, hb, _⟩⟩ := h'
    · rw [hv] at hh; simp [Value.ownBlock] at hh
    · rw [hv] at hh
      simp only [Value.ownBlock, Option.some.injEq] at hh
      subst hh
      rw [e3] at hb
      simp only [Option.some.injEq, Obj.cells.injEq] at hb
      exact hne hb.2.1
theorem own_none {W W3 : World} {B k n : Nat} {e : TypeId} {v : Value} {xs : List Value} (h : W.ownsRow B e k v n xs) (hg : W.grownBy W3 none) : W3.ownsRow B e k v n xs := by
  obtain ⟨hl, h | ⟨g, cap, cur, e1, e2, e3, e4, e5, e6, e7⟩⟩ := h
  · exact ⟨hl, Or.inl h⟩
  · refine ⟨hl, Or.inr ⟨g, cap, cur, e1, e2, ?_, e4, e5, e6, e7⟩⟩
    rw [hg.block g (lt_of_blk e3) (by simp)]; exact e3
theorem own_baseN {W : World} {B B' k n : Nat} {e : TypeId} {v : Value} {xs : List Value} (h : W.ownsRow B e k v n xs) (hB : B' ≤ B) : W.ownsRow B' e k v n xs := by
  obtain ⟨hl, h | ⟨g, cap, cur, e1, e2, e3, e4, e5, e6, e7⟩⟩ := h
  · exact ⟨hl, Or.inl h⟩
  · exact ⟨hl, Or.inr ⟨g, cap, cur, e1, Nat.le_trans hB e2, e3, e4, e5, e6, e7⟩⟩
theorem own_setN {W : World} {B k n b o : Nat} {e T : TypeId} {v x : Value} {xs : List Value} {cs : Array Value} {fr : Nat × Nat} (h : W.ownsRow B e k v n xs) (hb : W.heap[b]? = some (.cells cs T fr)) (hne : e ≠ T) : (W.setCell ⟨b, o, none⟩ x).ownsRow B e k v n xs := by
  obtain ⟨hl, h | ⟨g, cap, cur, e1, e2, e3, e4, e5, e6, e7⟩⟩ := h
  · exact ⟨hl, Or.inl h⟩
  · refine ⟨hl, Or.inr ⟨g, cap, cur, e1, e2, ?_, e4, e5, e6, e7⟩⟩
    rw [Below.heap_setCell _ _ _ _ (fun hh => ?_)]; exact e3
    subst hh
    rw [e3] at hb
    simp only [Option.some.injEq, Obj.cells.injEq] at hb
    exact hne hb.2.1
structure OwnE (B : Nat) (w : World) (r : Raw) (e : Ent) : Prop where
  m : r.1 = e.1
  rq : w.ownsRow B 35 2 r.2.1 e.2.1.length (flatM e.2.1)
  pk : w.ownsRow B 9 1 r.2.2.1 e.2.2.1.length (e.2.2.1.map Value.string)
  bk : r.2.2.2 = e.2.2.2
theorem OwnE.ok {B : Nat} {w : World} {r : Raw} {e : Ent} (h : OwnE B w r e) : RawOk w r e := ⟨h.m, own_ms h.rq, own_tx h.pk, h.bk⟩
theorem OwnE.sl {B : Nat} {w : World} {r : Raw} {e : Ent} (h : OwnE B w r e) : slR r := by
  obtain ⟨a, c, h1⟩ := own_slN h.rq
  obtain ⟨a', c', h2⟩ := own_slN h.pk
  exact ⟨⟨_, _, _, h1⟩, _, _, _, h2⟩
theorem OwnE.below {B : Nat} {w w' : World} {r : Raw} {e : Ent} (h : OwnE B w r e) (hb : Below w.heap.size w w') : OwnE B w' r e := ⟨h.m, owns_below h.rq hb, owns_below h.pk hb, h.bk⟩
theorem OwnE.noneg {B : Nat} {w w' : World} {r : Raw} {e : Ent} (h : OwnE B w r e) (hg : w.grownBy w' none) : OwnE B w' r e := ⟨h.m, own_none h.rq hg, own_none h.pk hg, h.bk⟩
theorem OwnE.kind {B B' k n : Nat} {w w' : World} {r : Raw} {e : Ent} {v : Value} {xs : List Value} (h : OwnE B w r e) (hg : w.grownBy w' v.ownBlock) (ho : w.ownsRow B' 42 k v n xs) : OwnE B w' r e :=
  ⟨h.m, own_kind h.rq hg ho (by decide), own_kind h.pk hg ho (by decide), h.bk⟩
theorem OwnE.set {B b o : Nat} {w : World} {r : Raw} {e : Ent} {x : Value} {cs : Array Value} {fr : Nat × Nat} (h : OwnE B w r e) (hb : w.heap[b]? = some (.cells cs 42 fr)) : OwnE B (w.setCell ⟨b, o, none⟩ x) r e :=
  ⟨h.m, own_setN h.rq hb (by decide), own_setN h.pk hb (by decide), h.bk⟩
structure OwnI (B : Nat) (w : World) (v : Value) (Q : List Raw) (L : List Ent) : Prop where
  ln : Q.length = L.length
  row : w.ownsRow B 42 5 v Q.length (flatR Q)
  es : ∀ j (h : j < Q.length) (h' : j < L.length), OwnE B w Q[j] L[j]
theorem OwnI.sl {B : Nat} {w : World} {v : Value} {Q : List Raw} {L : List Ent} (h : OwnI B w v Q L) : ∀ r, r ∈ Q → slR r := fun r hr => by
  obtain ⟨j, hj, rfl⟩ := List.getElem_of_mem hr
  exact (h.es j hj (by rw [← h.ln]; exact hj)).sl
theorem OwnI.ixs {B : Nat} {w : World} {v : Value} {Q : List Raw} {L : List Ent} (h : OwnI B w v Q L) : Ixs w v Q L := ⟨own_es h.sl h.row, h.ln, fun j h1 h2 => (h.es j h1 h2).ok⟩
theorem OwnI.below {B : Nat} {w w' : World} {v : Value} {Q : List Raw} {L : List Ent} (h : OwnI B w v Q L) (hb : Below w.heap.size w w') : OwnI B w' v Q L := ⟨h.ln, owns_below h.row hb, fun j h1 h2 => (h.es j h1 h2).below hb⟩
theorem OwnI.noneg {B : Nat} {w w' : World} {v : Value} {Q : List Raw} {L : List Ent} (h : OwnI B w v Q L) (hg : w.grownBy w' none) : OwnI B w' v Q L := ⟨h.ln, own_none h.row hg, fun j h1 h2 => (h.es j h1 h2).noneg hg⟩
theorem OwnI.set {B b o : Nat} {w : World} {v x : Value} {Q : List Raw} {L : List Ent} {cs : Array Value} {fr : Nat × Nat} (h : OwnI B w v Q L) (hb : w.heap[b]? = some (.cells cs 42 fr)) (hne : v.ownBlock ≠ some b) : OwnI B (w.setCell ⟨b, o, none⟩ x) v Q L := by
  refine ⟨h.ln, ?_, fun j h1 h2 => (h.es j h1 h2).set hb⟩
  obtain ⟨hl, hr | ⟨g, cap, cur, e1, e2, e3, e4, e5, e6, e7⟩⟩ := h.row
  · exact ⟨hl, Or.inl hr⟩
  · refine ⟨hl, Or.inr ⟨g, cap, cur, e1, e2, ?_, e4, e5, e6, e7⟩⟩
    rw [Below.heap_setCell _ _ _ _ (fun hh => hne (by rw [e1, hh]; rfl))]; exact e3
theorem OwnI.more {B : Nat} {w w' : World} {v v' : Value} {Q : List Raw} {L : List Ent} {k : Nat} {r : Raw} (hk : k < L.length) (h : OwnI B w v Q (L.take k)) (he : OwnE B w r L[k]) (hg : w.grownBy w' v.ownBlock)
    (ho : w'.ownsRow B 42 5 v' (Q.length + 1) (flatR Q ++ rowR r)) : OwnI B w' v' (Q ++ [r]) (L.take (k + 1)) := by
  have hl := h.ln
  have hlk : (L.take k).length = k := by rw [List.length_take]; omega
  refine ⟨?_, own_nextR ho rfl, fun j h1 h2 => ?_⟩
  · rw [List.length_append, hl, hlk, List.length_take]; show k + 1 = _; omega
  · by_cases hj : j < Q.length
    · have := (h.es j hj (by omega)).kind hg h.row
      rw [List.getElem_append_left hj, List.getElem_take]
      rw [List.getElem_take] at this; exact this
    · have hjk : j = k := by rw [List.length_append] at h1; simp at h1; omega
      subst hjk
      have hq : Q.length = j := by omega
      rw [List.getElem_append_right (by omega), List.getElem_take]
      simp only [hq, Nat.sub_self, List.getElem_cons_zero]
      exact he.kind hg h.row
def EmI (Q : List Raw) (L : List Ent) : Prop := ∀ j (h : j < Q.length) (h' : j < L.length), Em Q[j].2.1 L[j].2.1 ∧ EmT Q[j].2.2.1 L[j].2.2.1
structure Fits (e : Ent) : Prop where
  rq : e.2.1.length ≤ 1000
  pk : e.2.2.1.length ≤ 1000
set_option maxHeartbeats 8000000 in
set_option maxRecDepth 100000 in
theorem ownI_any (Q : List Raw) (L : List Ent) (v : Value) (w : World) (hn : L.length ≤ 1000) (I : Ixs w v Q L) (em : EmI Q L) (hf : ∀ e, e ∈ L → Fits e) :
    Calls Tryz.prog 14 #[v] w fun e w' => ∃ u Q', e = .returned u ∧ OwnI w.heap.size w' u Q' L ∧ Below w.heap.size w w' := by
  obtain ⟨i0, hi0, hz0, hz1, hz2⟩ := info_parts infoEnt
  obtain ⟨a, c, rfl, _, hs, hc⟩ := id I.es
  have HC := hid hc
  have HSL := hid hs
  have HI := hid I
  have HEM := hid em
  have HF := hid hf
  have hln := I.ln
  rw [hln]
  clear I hc hs em hf
  go_enter Tryz.func14, Tryz.ntmps14
  go_wp2_with fail
  go_loopw [3, 4] (fun ov i wr => ∃ k : Nat, k ≤ L.length ∧ i = .int .i64 k ∧ Hid (∃ Q', OwnI w.heap.size wr ov Q' (L.take k)) ∧ Hid (Below w.heap.size w wr)) (fun _ i _ => L.length - (intOf i).toNat)
  case atStart => exact ⟨0, Nat.zero_le _, rfl, hid ⟨[], rfl, World.ownsRow_nil _ _ _ _, fun j h => absurd h (Nat.not_lt_zero _)⟩, hid (Below.refl _ _)⟩
  case round =>
    obtain ⟨k, hk, rfl, HO, HB⟩ := hrel
    by_cases hlt : k < L.length
    · have hkq : k < Q.length := by omega
      have hO := HI.out.ok k hkq hlt
      have hE := HEM.out k hkq hlt
      have HFF := hid (HF.out L[k] (List.getElem_mem hlt))
      obtain ⟨Q', hQ'⟩ := HO.out
      have HQ := hid hQ'
      have hql : Q'.length = k := by rw [hQ'.ln, List.length_take]; omega
      obtain ⟨b, o, ha, hcc⟩ := HC.out (by intro h; rw [h] at hkq; simp at hkq)
      subst ha
      obtain ⟨y0, y1, y2, y3, y4⟩ := hcc k hkq
      have x0 := cell_below HB.out y0
      have x1 := cell_below HB.out y1
      have x2 := cell_below HB.out y2
      have x3 := cell_below HB.out y3
      have x4 := cell_below HB.out y4
      have hkI : (k : Int) < (L.length : Int) := by omega
      have HLT := hid hlt
      have HM := hid (fun (W W' : World) (u u' : Value) (r : Raw) (h : OwnI w.heap.size W u Q' (L.take k)) (he : OwnE w.heap.size W r L[k]) hg ho => OwnI.more (w' := W') (v' := u') hlt h he hg ho)
      have hsl := HSL.out Q[k] (List.getElem_mem hkq)
      have hnb : u3.ownBlock ≠ some wr.heap.size := fun hh => Nat.lt_irrefl _ (hQ'.row.lt _ hh).2
      clear hcc y0 y1 y2 y3 y4 hQ' HO
      generalize L[k] = e at *
      generalize Q[k] = r at *
      clear hlt hkq
      obtain ⟨⟨p, q⟩, rv, pv, bk⟩ := r
      obtain ⟨⟨p', q'⟩, eR, eP, bk'⟩ := e
      obtain ⟨hm, hrq, hpk, hbk⟩ := hO
      simp only at hm hrq hpk hbk x0 x1 x2 x3 x4 hE
      subst hbk
      obtain ⟨rfl, rfl⟩ : p = p' ∧ q = q' := by injection hm with h1 h2; exact ⟨h1, h2⟩
      have HRQ := hid (hrq.below HB.out)
      have HPK := hid (hpk.below HB.out)
      have HEE := hid hE
      obtain ⟨⟨ra, rn, rc, hrv⟩, pa, pn, pc, hpv⟩ := hsl
      simp only at hrv hpv
      subst hrv
      subst hpv
      clear hm hrq hpk hE
      have HB1 := hid (HB.out.alloc HB.out.size (.cells #[.string p, .string q, .slice ra rn rc, .slice pa pn pc, .bool bk] 42))
      have HBx := hid ((Below.refl wr.heap.size wr).alloc (Nat.le_refl _) (.cells #[.string p, .string q, .slice ra rn rc, .slice pa pn pc, .bool bk] 42))
      have HQ1 := hid (HQ.out.below HBx.out)
      have HOM := hid (ownM_any _ eR _ (Nat.le_trans HFF.out.rq (by decide)) (HRQ.out.below HBx.out) HEE.out.1)
      go_wp2_with fail
      refine HOM.out.mono ?_
      rintro e w1 ⟨u, rfl, hown, -, hb⟩
      have HU := hid (own_baseN hown (show w.heap.size ≤ _ from Nat.le_trans HB.out.size (by simp)))
      have HB2 := hid (HB1.out.trans (hb.mono HB1.out.size))
      have HQ2 := hid (HQ1.out.below hb)
      have HE2 := hid (show w1.heap[wr.heap.size]? = some (.cells #[.string p, .string q, .slice ra rn rc, .slice pa pn pc, .bool bk] 42 (0, 0)) by rw [hb.block _ (by simp)]; exact heap_alloc_new wr _)
      have HPK2 := hid (fun x => HPK.out.below ((HBx.out.trans (hb.mono (by simp))).setCell (p := ⟨wr.heap.size, 2, none⟩) (Nat.le_refl _) x))
      have hsz : w.heap.size ≤ wr.heap.size := HB.out.size
      have hsz1 : wr.heap.size < w1.heap.size := by have := hb.size; simp at this; omega
      obtain ⟨ua, uc, hu⟩ := own_slN hown
      subst hu
      have fz : ∀ o, w1.frozen? ⟨wr.heap.size, o, none⟩ = false := fun o => by simp [World.frozen?, HE2.out]
      clear hown hb x0 x1 x2 x3 x4 HOM
      have z0 : w1.cell? ⟨wr.heap.size, 0, none⟩ = some (.string p) := by rw [Lib.cell_of_heap HE2.out]; rfl
      have z1 : w1.cell? ⟨wr.heap.size, 1, none⟩ = some (.string q) := by rw [Lib.cell_of_heap HE2.out]; rfl
      have z2 : w1.cell? ⟨wr.heap.size, 2, none⟩ = some (.slice ra rn rc) := by rw [Lib.cell_of_heap HE2.out]; rfl
      have z3 : w1.cell? ⟨wr.heap.size, 3, none⟩ = some (.slice pa pn pc) := by rw [Lib.cell_of_heap HE2.out]; rfl
      have z4 : w1.cell? ⟨wr.heap.size, 4, none⟩ = some (.bool bk) := by rw [Lib.cell_of_heap HE2.out]; rfl
      have HRUN := hid (packs_run eP (.slice pa pn pc) (w1.setCell ⟨wr.heap.size, 2, none⟩ (.slice ua eR.length uc)) w.heap.size (by simp [World.setCell]; omega) HFF.out.pk (HPK2.out _) HEE.out.2)
      obtain ⟨pv', w3, hrun, hown3, hg3⟩ := HRUN.out
      have HRR := hid hrun
      have HB3 := hid ((HB2.out.setCell (p := ⟨wr.heap.size, 2, none⟩) hsz (.slice ua eR.length uc)).grown hg3 (by simp [World.setCell]; omega) (fun k hk => by cases hk))
      have HE3 := hid (show w3.heap[wr.heap.size]? = some (.cells #[.string p, .string q, .slice ua eR.length uc, .slice pa pn pc, .bool bk] 42 (0, 0)) by
        rw [hg3.block _ (by simp [World.setCell]; omega) (by simp)]; exact set_block HE2.out)
      have HPV := hid hown3
      have HUU := hid (own_none (own_setN HU.out HE2.out (o := 2) (x := .slice ua eR.length uc) (by decide)) hg3)
      have HQ3 := hid ((HQ2.out.set HE2.out hnb).noneg hg3)
      have hsz3 : wr.heap.size < w3.heap.size := lt_of_blk HE3.out
      obtain ⟨va, vc, hv⟩ := own_slN hown3
      subst hv
      clear hown3 hg3 HRUN hrun
      have fz3 : ∀ o, w3.frozen? ⟨wr.heap.size, o, none⟩ = false := fun o => by simp [World.frozen?, HE3.out]
      have y0 : w3.cell? ⟨wr.heap.size, 0, none⟩ = some (.string p) := by rw [Lib.cell_of_heap HE3.out]; rfl
      have y1 : w3.cell? ⟨wr.heap.size, 1, none⟩ = some (.string q) := by rw [Lib.cell_of_heap HE3.out]; rfl
      have y2 : w3.cell? ⟨wr.heap.size, 2, none⟩ = some (.slice ua eR.length uc) := by rw [Lib.cell_of_heap HE3.out]; rfl
      have y3 : w3.cell? ⟨wr.heap.size, 3, none⟩ = some (.slice pa pn pc) := by rw [Lib.cell_of_heap HE3.out]; rfl
      have y4 : w3.cell? ⟨wr.heap.size, 4, none⟩ = some (.bool bk) := by rw [Lib.cell_of_heap HE3.out]; rfl
      have HB4 := hid (HB3.out.setCell (p := ⟨wr.heap.size, 3, none⟩) hsz (.slice va eP.length vc))
      have HQ4 := hid (HQ3.out.set (o := 3) (x := .slice va eP.length vc) HE3.out hnb)
      have HEN := hid (show OwnE w.heap.size (w3.setCell ⟨wr.heap.size, 3, none⟩ (.slice va eP.length vc)) ((p, q), .slice ua eR.length uc, .slice va eP.length vc, bk) ((p, q), eR, eP, bk) from
        ⟨rfl, own_setN HUU.out HE3.out (by decide), own_setN HPV.out HE3.out (by decide), rfl⟩)
      have hk1000 : k < 1000 := by omega
      go_wp2_with (at_builtin; first
        | refine wpList_append_own _ rfl _ _ 22 rfl w.heap.size 42 i0 _ 5 88 Tryz.underlying22 hi0 hz0 hz1 hz2 rfl (by decide) _ _ _ rfl (HQ4.out.row.alloc _) ⟨w3.heap.size, 0, none⟩ 1 1 [.string p, .string q, .slice ua eR.length uc, .slice va eP.length vc, .bool bk] rfl rfl ?c1 ?c2 ?c3 ?c4 ?c5 ?_
        | refine Lib.wpList_append_run _ rfl _ _ _ _ rfl _ _ rfl rfl _ _ HRR.out ?_)
      case c1 => exact World.news_of_block (cs := #[.string p, .string q, .slice ua eR.length uc, .slice va eP.length vc, .bool bk]) (t := 42) (fr := (0, 0)) (by have := heap_alloc_new (w3.setCell ⟨wr.heap.size, 3, none⟩ (.slice va eP.length vc)) (.cells #[.string p, .string q, .slice ua eR.length uc, .slice va eP.length vc, .bool bk] 42); simpa [World.setCell] using this)
      case c2 =>
        intro u hu
        simp at hu
        rcases hu with rfl | rfl | rfl | rfl | rfl <;> rfl
      case c3 => unfold maxLen; omega
      case c4 => omega
      case c5 => simp [World.setCell]; omega
      intro v' w5 hown hgrow _
      have HBA := hid (HB4.out.alloc HB4.out.size (.cells #[.string p, .string q, .slice ua eR.length uc, .slice va eP.length vc, .bool bk] 42))
      have HB5 := hid (HBA.out.grown hgrow HBA.out.size (fun k hk => (HQ4.out.row.lt k hk).1))
      have HBy := hid ((Below.refl _ (w3.setCell ⟨wr.heap.size, 3, none⟩ (.slice va eP.length vc))).alloc (Nat.le_refl _) (.cells #[.string p, .string q, .slice ua eR.length uc, .slice va eP.length vc, .bool bk] 42))
      have HR := hid (HM.out _ _ _ _ ((p, q), .slice ua eR.length uc, .slice va eP.length vc, bk) (HQ4.out.below HBy.out) (HEN.out.below HBy.out) hgrow (by rw [hql]; exact hown))
      clear hown hgrow y0 y1 y2 y3 y4 fz3 z0 z1 z2 z3 z4 fz
      go_wp2_with fail
      go_roundw
      case rel => exact ⟨k + 1, by have := HLT.out; omega, by go_num, hid ⟨_, HR.out⟩, HB5⟩
      case measure => have := HLT.out; simp [intOf]; omega
    · have HTR := hid (show L.take k = L from List.take_of_length_le (by omega))
      have hkI : ¬ (k : Int) < (L.length : Int) := by omega
      clear hlt
      go_wp2_with fail
      go_ret
      obtain ⟨Q', hQ'⟩ := HO.out
      rw [HTR.out] at hQ'
      exact ⟨_, rfl, ⟨Q', hQ'⟩, HB.out⟩
end Ve
end Go.Proofs.YtnkgjddkdikikaaGreatDoor
namespace Go.Proofs.YtnkgjddkdikikaaGreatDoor
open Go.RowKit Go.Shelf Go.Sort
namespace Ve
theorem map_bl (X : List ByteArray) : (bl X).map encStr = X.map Value.string := by simp [bl]
def ba' (t : List UInt8) : ByteArray := ⟨t.toArray⟩
def srtB (Z : List (List UInt8)) : List (List UInt8) := Z.mergeSort fun x y => decide (x ≤ y)
def risB (Z : List (List UInt8)) : List (List UInt8) := Lib.compact (srtB Z)
theorem srtB_len (Z : List (List UInt8)) : (srtB Z).length = Z.length := by simp [srtB]
theorem values_any (a : Option Addr) (len cap : Nat) (w : World) :
    Calls Tryz.prog 124 #[.slice a len cap] w fun e w' => e = .returned (.func (.func 183) #[] #[.pointer (some ⟨w.heap.size, 0, none⟩)]) ∧ w' = w.alloc (.cells #[.slice a len cap] 29) :=
  (callsIn_wide (n := 4)).1 (values_in Fence.wide 4 trivial rfl a len cap w)
set_option maxRecDepth 100000 in
set_option maxHeartbeats 2000000 in
theorem sorted_any (X : List ByteArray) (hX : X.length ≤ 1000000) (sv : Value) (w : World) (Bs : Nat) (hBs : Bs < w.heap.size) (hc : w.cell? ⟨Bs, 0, none⟩ = some sv) (hI : TxAt w sv X) :
    Calls Tryz.prog 123 #[.func (.func 183) #[] #[.pointer (some ⟨Bs, 0, none⟩)]] w fun e W' => ∃ v, e = .returned v ∧ W'.ownsRow w.heap.size 9 1 v X.length ((srtB (bl X)).map encStr) ∧ Below w.heap.size w W' := by
  have HCL := hid (collect_any X hX sv w Bs hBs hc hI)
  clear hc hI
  go_enter Tryz.func123, Tryz.ntmps123
  go_wp2_with fail
  refine HCL.out.mono ?_
  rintro e W ⟨v, rfl, hrow, hnil, hb⟩
  have HB := hid hb
  have HROW := hid hrow
  rcases hrow.2 with ⟨rfl, hz⟩ | ⟨gb, cap, cur, rfl, hbase, hgb, r1, r2, r3, r4⟩
  · have hss : X = [] := List.eq_nil_of_length_eq_zero hz
    subst hss
    have HS := hid (Tryz.slices_Sort_string_none none 0 W)
    clear hrow hnil hb hz
    go_wp2_with fail
    refine HS.out.mono ?_
    rintro e w1 ⟨rfl, rfl⟩
    go_wp2_with fail
    go_ret
    exact ⟨_, rfl, by simpa [srtB, bl] using World.ownsRow_nil w1 w.heap.size 9 1, HB.out⟩
  · have hlen : (bl X).length = X.length := bl_len X
    have hH : Holds encStr W gb 0 (bl X).toArray := holds_of_block hgb (by rw [map_bl, hlen]; simpa using r4)
    have hgl : gb < W.heap.size := (Array.getElem?_eq_some_iff.1 hgb).1
    have HS := hid (Tryz.slices_Sort_string gb 0 cap (bl X) W hH hgl (by rw [hlen]; omega))
    rw [hlen] at HS
    have HO := hid (fun n os => ownsRow_sorted (n := n) (os := os) (ss := bl X) (ts := srtB (bl X)) (srtB_len _) hbase hgb (by rw [hlen]; exact r1) r2 r3)
    have HBS := hid hbase
    clear hrow hnil hb hH r1 r2 r3 r4 hgb
    go_wp2_with fail
    refine HS.out.mono ?_
    rintro e w1 ⟨rfl, nn, os, rfl⟩
    have HBB := hid (HB.out.grown (grownBy_sorted (w := W) (g := gb) (n := nn) (os := os) (srtB (bl X)).toArray) HB.out.size (fun j hj => by cases hj; exact HBS.out))
    have HOO := hid (HO.out nn os)
    rw [hlen] at HOO
    have HWW := hid (show ∃ W2, grow (putRow encStr (Sort.ahead W nn) gb 0 ((bl X).mergeSort fun x y => decide (x ≤ y)).toArray) os = W2 from ⟨_, rfl⟩)
    obtain ⟨W2, hW2⟩ := HWW.out
    have HOO2 := hid (show W2.ownsRow w.heap.size 9 1 (.slice (some ⟨gb, 0, none⟩) X.length cap) X.length ((srtB (bl X)).map encStr) by rw [← hW2]; exact HOO.out)
    have HBB2 := hid (show Below w.heap.size w W2 by rw [← hW2]; exact HBB.out)
    rw [hW2]
    clear HOO HBB HO HWW hW2
    go_wp2_with fail
    go_ret
    exact ⟨_, rfl, HOO2.out, HBB2.out⟩
theorem owns_compact {w : World} {base g cap n : Nat} {e : TypeId} {cur : Array Value} {C R : List (List UInt8)} (hbase : base ≤ g) (hb : w.heap[g]? = some (.cells cur e (0, 0)))
    (h1 : C.length + R.length ≤ cap) (h2 : cap ≤ maxLen) (h3 : cur.size = cap * 1) :
    (putRow encStr (Sort.ahead w n) g 0 (C ++ R).toArray).ownsRow base e 1 (.slice (some ⟨g, 0, none⟩) C.length cap) C.length (C.map encStr) := by
  have hs := heap_sorted (n := n) (os := #[]) (C ++ R).toArray hb
  rw [grow_empty] at hs
  refine ⟨by simp, .inr ⟨g, cap, _, rfl, hbase, hs, by omega, h2, by simp [putCells, h3], ?_⟩⟩
  have ht := take_putCells cur (C ++ R) (by rw [List.length_append]; omega)
  have := congrArg (List.take C.length) ht
  rw [List.take_take, List.length_append, Nat.min_eq_left (by omega), List.map_append, List.take_append_of_le_length (by simp), List.take_of_length_le (l := List.map encStr C) (by simp)] at this
  rw [Nat.mul_one]; exact this
theorem grownBy_compact {w : World} {g n : Nat} (d : Array (List UInt8)) : w.grownBy (putRow encStr (Sort.ahead w n) g 0 d) (some g) := by
  have := grownBy_sorted (w := w) (g := g) (n := n) (os := #[]) d
  rwa [grow_empty] at this
theorem compact_le (zs : List (List UInt8)) : (Lib.compact zs).length ≤ zs.length := by
  unfold Lib.compact Lib.compactUpTo
  rw [List.length_map]
  exact Nat.le_trans (List.length_filter_le _ _) (by simp)
def tx (Z : List (List UInt8)) : List ByteArray := Z.map ba'
theorem tx_str (Z : List (List UInt8)) : (tx Z).map Value.string = Z.map encStr := by simp [tx, ba']
theorem bl_tx (Z : List (List UInt8)) : bl (tx Z) = Z := by
  unfold bl tx
  rw [List.map_map]
  exact (List.map_congr_left fun t _ => show (ba' t).data.toList = t by simp [ba']).trans (List.map_id _)
theorem tx_len (Z : List (List UInt8)) : (tx Z).length = Z.length := by simp [tx]
theorem own_txB {w : World} {B : Nat} {e : TypeId} {v : Value} {Z : List (List UInt8)} (h : w.ownsRow B e 1 v Z.length (Z.map encStr)) : w.ownsRow B e 1 v (tx Z).length ((tx Z).map Value.string) := by
  rw [tx_str, tx_len]; exact h
set_option maxRecDepth 100000 in
set_option maxHeartbeats 2000000 in
theorem rising_any (X : List ByteArray) (hX : X.length ≤ 1000000) (sv : Value) (w : World) (hI : TxAt w sv X) :
    Calls Tryz.prog 57 #[sv] w fun e W' => ∃ v, e = .returned v ∧ W'.ownsRow w.heap.size 9 1 v (tx (risB (bl X))).length ((tx (risB (bl X))).map Value.string) ∧ Below w.heap.size w W' := by
  obtain ⟨a, c, rfl, hac, _⟩ := id hI
  have HV := hid (values_any a X.length c w)
  have HB1 := hid ((Below.refl w.heap.size w).alloc (Nat.le_refl _) (.cells #[.slice a X.length c] 29))
  have HSO := hid (sorted_any X hX (.slice a X.length c) (w.alloc (.cells #[.slice a X.length c] 29)) w.heap.size (by simp) (by rw [Lib.cell_of_heap (heap_alloc_new w _)]; rfl) (hI.below HB1.out))
  clear hI hac
  go_enter Tryz.func57, Tryz.ntmps57
  go_wp2_with fail
  refine HV.out.mono ?_
  rintro e w1 ⟨rfl, rfl⟩
  go_wp2_with fail
  refine HSO.out.mono ?_
  rintro e W ⟨v, rfl, hrow, hb⟩
  have HB := hid (HB1.out.trans (hb.mono (by simp)))
  rcases hrow.2 with ⟨rfl, hz⟩ | ⟨gb, cap, cur, rfl, hbase, hgb, r1, r2, r3, r4⟩
  · have hss : X = [] := List.eq_nil_of_length_eq_zero hz
    subst hss
    have HS := hid (Tryz.slices_Compact_string_empty none 0 W)
    clear hrow hb hz
    go_wp2_with fail
    refine HS.out.mono ?_
    rintro e w1 ⟨rfl, rfl⟩
    go_wp2_with fail
    go_ret
    exact ⟨_, rfl, by simpa [risB, srtB, bl, tx, Lib.compact, Lib.compactUpTo] using World.ownsRow_nil w1 w.heap.size 9 1, HB.out⟩
  · have hlen : (srtB (bl X)).length = X.length := by rw [srtB_len, bl_len]
    have hH : Holds encStr W gb 0 (srtB (bl X)).toArray := holds_of_block hgb (by rw [hlen]; simpa using r4)
    have HS := hid (Tryz.slices_Compact_string gb 0 cap (srtB (bl X)) W hH (by rw [hlen]; omega) (by rw [hlen]; exact r1))
    rw [hlen] at HS
    have hcl := compact_le (srtB (bl X))
    have hgw : w.heap.size ≤ gb := by simp at hbase; omega
    have HO := hid (fun n => owns_compact (n := n) (base := w.heap.size) (C := risB (bl X)) (R := List.replicate (X.length - (Lib.compact (srtB (bl X))).length) []) hgw hgb (by rw [List.length_replicate]; unfold risB; omega) r2 r3)
    have HBS := hid hgw
    clear hrow hb hH r1 r2 r3 r4 hgb hbase
    go_wp2_with fail
    refine HS.out.mono ?_
    rintro e w1 ⟨rfl, nn, hw1⟩
    have HBB := hid (HB.out.grown (grownBy_compact (w := W) (g := gb) (n := nn) (Lib.compact (srtB (bl X)) ++ List.replicate (X.length - (Lib.compact (srtB (bl X))).length) []).toArray) HB.out.size (fun j hj => by cases hj; exact HBS.out))
    have HOO := hid (HO.out nn)
    rw [← hw1] at HBB
    have HOO2 := hid (show w1.ownsRow w.heap.size 9 1 (.slice (some ⟨gb, 0, none⟩) (risB (bl X)).length cap) (risB (bl X)).length ((risB (bl X)).map encStr) by rw [hw1]; exact HOO.out)
    clear HOO HO hw1
    go_wp2_with fail
    go_ret
    exact ⟨_, rfl, own_txB HOO2.out, HBB.out⟩
end Ve
end Go.Proofs.YtnkgjddkdikikaaGreatDoor
