
import Derived.Test.YtpafkniapacfdaaGreatDoorSq16
import Derived.Test.YtpafkniapacfdaaGreatDoorSq12
import Derived.Test.YtpafkniapacfdaaGreatDoorSq11
import Derived.Test.YtpafkniapacfdaaGreatDoorSq19
import Derived.Test.YtpafkniapacfdaaGreatDoorSq5
import Derived.Test.YtpafkniapacfdaaGreatDoorSq4
import Derived.Test.YtpafkniapacfdaaGreatDoorSq18
import Derived.Lib.AppendZeros
import Derived.Test.YtpafkniapacfdaaGreatDoorSq20
import Derived.Test.YtpafkniapacfdaaGreatDoorSq15
import Derived.Deep.RegionHeld
namespace Go.Proofs.YtpafkniapacfdaaGreatDoor
open Go.RowKit
namespace Ve
abbrev Ln := Bm × Nat
def modL (m : Bm) : List UInt8 := modText m.1.data.toList m.2.data.toList ++ [10]
def sumT (e : Ent) : List UInt8 := modL e.1 ++ e.2.1.flatMap modL ++ e.2.2.1.flatMap (fun p => 47 :: (p.data.toList ++ [10])) ++ (if e.2.2.2 then [45] else [])
def sumE (e : Ent) : Nat := crcL (sumT e)
def lineT (x : Ln) : List UInt8 := x.1.1.data.toList ++ 32 :: (x.1.2.data.toList ++ 32 :: (Lib.decDigits x.2 ++ [10]))
def txE (X : List Ln) (i : Nat) : Nat := exE (X.map fun x => x.1) i
def txF (X : List Ln) : Nat × Option Nat := (codeE (txE X) X.length, fstE (txE X) X.length)
def txT (X : List Ln) : List UInt8 := if (txF X).1 = 0 then X.flatMap lineT else []
def ln0 : Ln := ((⟨#[]⟩, ⟨#[]⟩), 0)
def rdS (c : List UInt8) : Nat × Nat := if digs c = true ∧ zero c = false ∧ c.length ≤ 10 then (if valTo 0 c ≤ 4294967295 then (0, (valTo 0 c).toNat) else (2, 0)) else (1, 0)
def rdW : List (List UInt8) → Nat × Ln
  | [a, b, c] => if (rdS c).1 = 0 then (0, ((bt a, bt b), (rdS c).2)) else ((rdS c).1, ln0)
  | _ => (1, ln0)
def hasEnd (t : List UInt8) : Bool := decide (t.getLast? = some 10)
def rdT (t : List UInt8) : Nat × Ln := if hasEnd t then rdW (cutAt 32 t.dropLast) else (1, ln0)
def lnEr (T : List (List UInt8)) (i : Nat) : Nat := match T[i]? with
  | none => 0
  | some t => if (rdT t).1 ≠ 0 then (rdT t).1 else exW (prevOf (T.map fun t => (rdT t).2.1) i) (rdT t).2.1
def rdF (T : List (List UInt8)) : Nat × Option Nat := (codeE (lnEr T) T.length, fstE (lnEr T) T.length)
def rdX (T : List (List UInt8)) : List Ln := if (rdF T).1 = 0 then T.map (fun t => (rdT t).2) else []
def vfW (H : List Ln) (x : Ln) : Nat := match H.find? (fun h => decide (h.1 = x.1)) with
  | none => 5
  | some h => if h.2 = x.2 then 0 else 10
def vfE (H X : List Ln) (i : Nat) : Nat := match X[i]? with
  | none => 0
  | some x => vfW H x
end Ve
end Go.Proofs.YtpafkniapacfdaaGreatDoor


namespace Go.Proofs.YtpafkniapacfdaaGreatDoor
open Go.RowKit
namespace Ve
def EmT (v : Value) (X : List ByteArray) : Prop := ∀ a c, v = .slice a X.length c → X = [] → (Value.slice a 0 c = .slice none 0 0 ∨ ∃ a', Value.slice a 0 c = .slice (some a') 0 c)
theorem packs_run (X : List ByteArray) (pv : Value) (W : World) (B : Nat) (hB : B ≤ W.heap.size) (hn : X.length ≤ 1000) (h : TxAt W pv X) (he : EmT pv X) :
    ∃ v' W', (Builtin.append_ #[53, 53] 53 #[.slice none 0 0, pv]).run Tryz.prog W = .ok v' W' ∧ W'.ownsRow B 9 1 v' X.length (X.map Value.string) ∧ W.grownBy W' none := by
  obtain ⟨i0, hi, hz0, hz1, hz2⟩ := info_parts infoStr
  obtain ⟨a, c, rfl, hc, h2⟩ := h
  cases X with
  | nil =>
    rcases he a c rfl rfl with hz | ⟨a', hz⟩
    · refine ⟨.slice none 0 0, W, ?_, World.ownsRow_nil _ _ _ _, ⟨rfl, rfl, rfl, Nat.le_refl _, fun _ _ _ => rfl⟩⟩
      show (Builtin.append_ #[53, 53] 53 #[.slice none 0 0, .slice a 0 c]).run Tryz.prog W = _
      rw [hz]
      simp [Builtin.append_, run_underlying Tryz.underlying53, Builtin.lenOf, Builtin.firstCells, Go.sizeOf, typeInfo, hi]
    · refine ⟨.slice none 0 0, W, ?_, World.ownsRow_nil _ _ _ _, ⟨rfl, rfl, rfl, Nat.le_refl _, fun _ _ _ => rfl⟩⟩
      show (Builtin.append_ #[53, 53] 53 #[.slice none 0 0, .slice a 0 c]).run Tryz.prog W = _
      rw [hz]
      have hl : (loadCells a' 0).run Tryz.prog W = .ok #[] W := by simpa using run_loadCells_list (P := Tryz.prog) W a' [] (by simp)
      simp [Builtin.append_, run_underlying Tryz.underlying53, Builtin.lenOf, Builtin.firstCells, Go.sizeOf, typeInfo, hi, hl]
  | cons x r =>
    obtain ⟨b, o, rfl, hcell⟩ := h2 (by simp)
    obtain ⟨g, cap, w', hr, h3, h4, _, _⟩ := run_append_lies (P := Tryz.prog) W 53 53 B 9 i0 (.string ByteArray.empty) 1 16 Tryz.underlying53 hi hz0 hz1 hz2 rfl (by decide) (.slice none 0 0) 0 [] (World.ownsRow_nil _ _ _ _)
      ⟨b, o, none⟩ (x :: r).length c ((x :: r).map Value.string) (by simp) (fun j u hj => by
        rw [Addr.add_lit]
        obtain ⟨hj1, hj2⟩ := List.getElem?_eq_some_iff.1 hj
        have hj3 : j < (x :: r).length := by simpa using hj1
        have := hcell j hj3
        rw [this, ← hj2]; exact congrArg some (List.getElem_map ..).symm) (fun u hu => by
        obtain ⟨y, _, rfl⟩ := List.mem_map.1 hu
        rfl) (by simp) (by unfold maxLen; omega) (by omega) hB W.heap.size rfl
    rw [Nat.zero_add, List.nil_append] at h3
    rw [Nat.zero_add] at hr
    exact ⟨_, _, hr, h3, h4⟩
theorem own_slN {W : World} {B n k : Nat} {e : TypeId} {v : Value} {xs : List Value} (h : W.ownsRow B e k v n xs) : ∃ a c, v = .slice a n c := by
  obtain ⟨_, ⟨hv, hn0⟩ | ⟨g, cap, cur, hv, _⟩⟩ := h
  · exact ⟨none, 0, by rw [hv, hn0]⟩
  · exact ⟨_, _, hv⟩
theorem own_kind {W W3 : World} {B B' k k' n n' : Nat} {e e' : TypeId} {v v' : Value} {xs xs' : List Value} (h : W.ownsRow B e k v n xs) (hg : W.grownBy W3 v'.ownBlock) (h' : W.ownsRow B' e' k' v' n' xs') (hne : e ≠ e') : W3.ownsRow B e k v n xs := by
  obtain ⟨hl, h | ⟨g, cap, cur, e1, e2, e3, e4, e5, e6, e7⟩⟩ := h
  · exact ⟨hl, Or.inl h⟩
  · refine ⟨hl, Or.inr ⟨g, cap, cur, e1, e2, ?_, e4, e5, e6, e7⟩⟩
    rw [hg.block g (lt_of_blk e3) (fun hh => ?_)]; exact e3
    obtain ⟨_, ⟨hv, _⟩ | ⟨g', cap', cur', hv, _, hb, _⟩⟩ := h'
    · rw [hv] at hh; simp [Value.ownBlock] at hh
    · rw [hv] at hh
      simp only [Value.ownBlock, Option.some.injEq] at hh
      subst hh
      rw [e3] at hb
      simp only [Option.some.injEq, Obj.cells.injEq] at hb
      exact hne hb.2.1
theorem own_none {W W3 : World} {B k n : Nat} {e : TypeId} {v : Value} {xs : List Value} (h : W.ownsRow B e k v n xs) (hg : W.grownBy W3 none) : W3.ownsRow B e k v n xs := by
  obtain ⟨hl, h | ⟨g, cap, cur, e1, e2, e3, e4, e5, e6, e7⟩⟩ := h
  · exact ⟨hl, Or.inl h⟩
  · refine ⟨hl, Or.inr ⟨g, cap, cur, e1, e2, ?_, e4, e5, e6, e7⟩⟩
    rw [hg.block g (lt_of_blk e3) (by simp)]; exact e3
theorem own_baseN {W : World} {B B' k n : Nat} {e : TypeId} {v : Value} {xs : List Value} (h : W.ownsRow B e k v n xs) (hB : B' ≤ B) : W.ownsRow B' e k v n xs := by
  obtain ⟨hl, h | ⟨g, cap, cur, e1, e2, e3, e4, e5, e6, e7⟩⟩ := h
  · exact ⟨hl, Or.inl h⟩
  · exact ⟨hl, Or.inr ⟨g, cap, cur, e1, Nat.le_trans hB e2, e3, e4, e5, e6, e7⟩⟩
theorem own_setN {W : World} {B k n b o : Nat} {e T : TypeId} {v x : Value} {xs : List Value} {cs : Array Value} {fr : Nat × Nat} (h : W.ownsRow B e k v n xs) (hb : W.heap[b]? = some (.cells cs T fr)) (hne : e ≠ T) : (W.setCell ⟨b, o, none⟩ x).ownsRow B e k v n xs := by
  obtain ⟨hl, h | ⟨g, cap, cur, e1, e2, e3, e4, e5, e6, e7⟩⟩ := h
  · exact ⟨hl, Or.inl h⟩
  · refine ⟨hl, Or.inr ⟨g, cap, cur, e1, e2, ?_, e4, e5, e6, e7⟩⟩
    rw [Below.heap_setCell _ _ _ _ (fun hh => ?_)]; exact e3
    subst hh
    rw [e3] at hb
    simp only [Option.some.injEq, Obj.cells.injEq] at hb
    exact hne hb.2.1
structure OwnE (B : Nat) (w : World) (r : Raw) (e : Ent) : Prop where
  m : r.1 = e.1
  rq : w.ownsRow B 42 2 r.2.1 e.2.1.length (flatM e.2.1)
  pk : w.ownsRow B 9 1 r.2.2.1 e.2.2.1.length (e.2.2.1.map Value.string)
  bk : r.2.2.2 = e.2.2.2
theorem OwnE.ok {B : Nat} {w : World} {r : Raw} {e : Ent} (h : OwnE B w r e) : RawOk w r e := ⟨h.m, own_ms h.rq, own_tx h.pk, h.bk⟩
theorem OwnE.sl {B : Nat} {w : World} {r : Raw} {e : Ent} (h : OwnE B w r e) : slR r := by
  obtain ⟨a, c, h1⟩ := own_slN h.rq
  obtain ⟨a', c', h2⟩ := own_slN h.pk
  exact ⟨⟨_, _, _, h1⟩, _, _, _, h2⟩
theorem OwnE.below {B : Nat} {w w' : World} {r : Raw} {e : Ent} (h : OwnE B w r e) (hb : Below w.heap.size w w') : OwnE B w' r e := ⟨h.m, owns_below h.rq hb, owns_below h.pk hb, h.bk⟩
theorem OwnE.noneg {B : Nat} {w w' : World} {r : Raw} {e : Ent} (h : OwnE B w r e) (hg : w.grownBy w' none) : OwnE B w' r e := ⟨h.m, own_none h.rq hg, own_none h.pk hg, h.bk⟩
theorem OwnE.kind {B B' k n : Nat} {w w' : World} {r : Raw} {e : Ent} {v : Value} {xs : List Value} (h : OwnE B w r e) (hg : w.grownBy w' v.ownBlock) (ho : w.ownsRow B' 55 k v n xs) : OwnE B w' r e :=
  ⟨h.m, own_kind h.rq hg ho (by decide), own_kind h.pk hg ho (by decide), h.bk⟩
theorem OwnE.set {B b o : Nat} {w : World} {r : Raw} {e : Ent} {x : Value} {cs : Array Value} {fr : Nat × Nat} (h : OwnE B w r e) (hb : w.heap[b]? = some (.cells cs 55 fr)) : OwnE B (w.setCell ⟨b, o, none⟩ x) r e :=
  ⟨h.m, own_setN h.rq hb (by decide), own_setN h.pk hb (by decide), h.bk⟩
structure OwnI (B : Nat) (w : World) (v : Value) (Q : List Raw) (L : List Ent) : Prop where
  ln : Q.length = L.length
  row : w.ownsRow B 55 5 v Q.length (flatR Q)
  es : ∀ j (h : j < Q.length) (h' : j < L.length), OwnE B w Q[j] L[j]
theorem OwnI.sl {B : Nat} {w : World} {v : Value} {Q : List Raw} {L : List Ent} (h : OwnI B w v Q L) : ∀ r, r ∈ Q → slR r := fun r hr => by
  obtain ⟨j, hj, rfl⟩ := List.getElem_of_mem hr
  exact (h.es j hj (by rw [← h.ln]; exact hj)).sl
theorem OwnI.ixs {B : Nat} {w : World} {v : Value} {Q : List Raw} {L : List Ent} (h : OwnI B w v Q L) : Ixs w v Q L := ⟨own_es h.sl h.row, h.ln, fun j h1 h2 => (h.es j h1 h2).ok⟩
theorem OwnI.below {B : Nat} {w w' : World} {v : Value} {Q : List Raw} {L : List Ent} (h : OwnI B w v Q L) (hb : Below w.heap.size w w') : OwnI B w' v Q L := ⟨h.ln, owns_below h.row hb, fun j h1 h2 => (h.es j h1 h2).below hb⟩
theorem OwnI.noneg {B : Nat} {w w' : World} {v : Value} {Q : List Raw} {L : List Ent} (h : OwnI B w v Q L) (hg : w.grownBy w' none) : OwnI B w' v Q L := ⟨h.ln, own_none h.row hg, fun j h1 h2 => (h.es j h1 h2).noneg hg⟩
theorem OwnI.set {B b o : Nat} {w : World} {v x : Value} {Q : List Raw} {L : List Ent} {cs : Array Value} {fr : Nat × Nat} (h : OwnI B w v Q L) (hb : w.heap[b]? = some (.cells cs 55 fr)) (hne : v.ownBlock ≠ some b) : OwnI B (w.setCell ⟨b, o, none⟩ x) v Q L := by
  refine ⟨h.ln, ?_, fun j h1 h2 => (h.es j h1 h2).set hb⟩
  obtain ⟨hl, hr | ⟨g, cap, cur, e1, e2, e3, e4, e5, e6, e7⟩⟩ := h.row
  · exact ⟨hl, Or.inl hr⟩
  · refine ⟨hl, Or.inr ⟨g, cap, cur, e1, e2, ?_, e4, e5, e6, e7⟩⟩
    rw [Below.heap_setCell _ _ _ _ (fun hh => hne (by rw [e1, hh]; rfl))]; exact e3
theorem OwnI.more {B : Nat} {w w' : World} {v v' : Value} {Q : List Raw} {L : List Ent} {k : Nat} {r : Raw} (hk : k < L.length) (h : OwnI B w v Q (L.take k)) (he : OwnE B w r L[k]) (hg : w.grownBy w' v.ownBlock)
    (ho : w'.ownsRow B 55 5 v' (Q.length + 1) (flatR Q ++ rowR r)) : OwnI B w' v' (Q ++ [r]) (L.take (k + 1)) := by
  have hl := h.ln
  have hlk : (L.take k).length = k := by rw [List.length_take]; omega
  refine ⟨?_, own_nextR ho rfl, fun j h1 h2 => ?_⟩
  · rw [List.length_append, hl, hlk, List.length_take]; show k + 1 = _; omega
  · by_cases hj : j < Q.length
    · have := (h.es j hj (by omega)).kind hg h.row
      rw [List.getElem_append_left hj, List.getElem_take]
      rw [List.getElem_take] at this; exact this
    · have hjk : j = k := by rw [List.length_append] at h1; simp at h1; omega
      subst hjk
      have hq : Q.length = j := by omega
      rw [List.getElem_append_right (by omega), List.getElem_take]
      simp only [hq, Nat.sub_self, List.getElem_cons_zero]
      exact he.kind hg h.row
def EmI (Q : List Raw) (L : List Ent) : Prop := ∀ j (h : j < Q.length) (h' : j < L.length), Em Q[j].2.1 L[j].2.1 ∧ EmT Q[j].2.2.1 L[j].2.2.1
structure Fits (e : Ent) : Prop where
  rq : e.2.1.length ≤ 1000
  pk : e.2.2.1.length ≤ 1000
set_option maxHeartbeats 8000000 in
set_option maxRecDepth 100000 in
theorem ownI_any (Q : List Raw) (L : List Ent) (v : Value) (w : World) (hn : L.length ≤ 1000) (I : Ixs w v Q L) (em : EmI Q L) (hf : ∀ e, e ∈ L → Fits e) :
    Calls Tryz.prog 8 #[v] w fun e w' => ∃ u Q', e = .returned u ∧ OwnI w.heap.size w' u Q' L ∧ Below w.heap.size w w' := by
  obtain ⟨i0, hi0, hz0, hz1, hz2⟩ := info_parts infoEnt
  obtain ⟨a, c, rfl, _, hs, hc⟩ := id I.es
  have HC := hid hc
  have HSL := hid hs
  have HI := hid I
  have HEM := hid em
  have HF := hid hf
  have hln := I.ln
  rw [hln]
  clear I hc hs em hf
  go_enter Tryz.func8, Tryz.ntmps8
  go_wp2_with fail
  go_loopw [3, 4] (fun ov i wr => ∃ k : Nat, k ≤ L.length ∧ i = .int .i64 k ∧ Hid (∃ Q', OwnI w.heap.size wr ov Q' (L.take k)) ∧ Hid (Below w.heap.size w wr)) (fun _ i _ => L.length - (intOf i).toNat)
  case atStart => exact ⟨0, Nat.zero_le _, rfl, hid ⟨[], rfl, World.ownsRow_nil _ _ _ _, fun j h => absurd h (Nat.not_lt_zero _)⟩, hid (Below.refl _ _)⟩
  case round =>
    obtain ⟨k, hk, rfl, HO, HB⟩ := hrel
    by_cases hlt : k < L.length
    · have hkq : k < Q.length := by omega
      have hO := HI.out.ok k hkq hlt
      have hE := HEM.out k hkq hlt
      have HFF := hid (HF.out L[k] (List.getElem_mem hlt))
      obtain ⟨Q', hQ'⟩ := HO.out
      have HQ := hid hQ'
      have hql : Q'.length = k := by rw [hQ'.ln, List.length_take]; omega
      obtain ⟨b, o, ha, hcc⟩ := HC.out (by intro h; rw [h] at hkq; simp at hkq)
      subst ha
      obtain ⟨y0, y1, y2, y3, y4⟩ := hcc k hkq
      have x0 := cell_below HB.out y0
      have x1 := cell_below HB.out y1
      have x2 := cell_below HB.out y2
      have x3 := cell_below HB.out y3
      have x4 := cell_below HB.out y4
      have hkI : (k : Int) < (L.length : Int) := by omega
      have HLT := hid hlt
      have HM := hid (fun (W W' : World) (u u' : Value) (r : Raw) (h : OwnI w.heap.size W u Q' (L.take k)) (he : OwnE w.heap.size W r L[k]) hg ho => OwnI.more (w' := W') (v' := u') hlt h he hg ho)
      have hsl := HSL.out Q[k] (List.getElem_mem hkq)
      have hnb : u3.ownBlock ≠ some wr.heap.size := fun hh => Nat.lt_irrefl _ (hQ'.row.lt _ hh).2
      clear hcc y0 y1 y2 y3 y4 hQ' HO
      generalize L[k] = e at *
      generalize Q[k] = r at *
      clear hlt hkq
      obtain ⟨⟨p, q⟩, rv, pv, bk⟩ := r
      obtain ⟨⟨p', q'⟩, eR, eP, bk'⟩ := e
      obtain ⟨hm, hrq, hpk, hbk⟩ := hO
      simp only at hm hrq hpk hbk x0 x1 x2 x3 x4 hE
      subst hbk
      obtain ⟨rfl, rfl⟩ : p = p' ∧ q = q' := by injection hm with h1 h2; exact ⟨h1, h2⟩
      have HRQ := hid (hrq.below HB.out)
      have HPK := hid (hpk.below HB.out)
      have HEE := hid hE
      obtain ⟨⟨ra, rn, rc, hrv⟩, pa, pn, pc, hpv⟩ := hsl
      simp only at hrv hpv
      subst hrv
      subst hpv
      clear hm hrq hpk hE
      have HB1 := hid (HB.out.alloc HB.out.size (.cells #[.string p, .string q, .slice ra rn rc, .slice pa pn pc, .bool bk] 55))
      have HBx := hid ((Below.refl wr.heap.size wr).alloc (Nat.le_refl _) (.cells #[.string p, .string q, .slice ra rn rc, .slice pa pn pc, .bool bk] 55))
      have HQ1 := hid (HQ.out.below HBx.out)
      have HOM := hid (ownM_any _ eR _ (Nat.le_trans HFF.out.rq (by decide)) (HRQ.out.below HBx.out) HEE.out.1)
      go_wp2_with fail
      refine HOM.out.mono ?_
      rintro e w1 ⟨u, rfl, hown, -, hb⟩
      have HU := hid (own_baseN hown (show w.heap.size ≤ _ from Nat.le_trans HB.out.size (by simp)))
      have HB2 := hid (HB1.out.trans (hb.mono HB1.out.size))
      have HQ2 := hid (HQ1.out.below hb)
      have HE2 := hid (show w1.heap[wr.heap.size]? = some (.cells #[.string p, .string q, .slice ra rn rc, .slice pa pn pc, .bool bk] 55 (0, 0)) by rw [hb.block _ (by simp)]; exact heap_alloc_new wr _)
      have HPK2 := hid (fun x => HPK.out.below ((HBx.out.trans (hb.mono (by simp))).setCell (p := ⟨wr.heap.size, 2, none⟩) (Nat.le_refl _) x))
      have hsz : w.heap.size ≤ wr.heap.size := HB.out.size
      have hsz1 : wr.heap.size < w1.heap.size := by have := hb.size; simp at this; omega
      obtain ⟨ua, uc, hu⟩ := own_slN hown
      subst hu
      have fz : ∀ o, w1.frozen? ⟨wr.heap.size, o, none⟩ = false := fun o => by simp [World.frozen?, HE2.out]
      clear hown hb x0 x1 x2 x3 x4 HOM
      have z0 : w1.cell? ⟨wr.heap.size, 0, none⟩ = some (.string p) := by rw [Lib.cell_of_heap HE2.out]; rfl
      have z1 : w1.cell? ⟨wr.heap.size, 1, none⟩ = some (.string q) := by rw [Lib.cell_of_heap HE2.out]; rfl
      have z2 : w1.cell? ⟨wr.heap.size, 2, none⟩ = some (.slice ra rn rc) := by rw [Lib.cell_of_heap HE2.out]; rfl
      have z3 : w1.cell? ⟨wr.heap.size, 3, none⟩ = some (.slice pa pn pc) := by rw [Lib.cell_of_heap HE2.out]; rfl
      have z4 : w1.cell? ⟨wr.heap.size, 4, none⟩ = some (.bool bk) := by rw [Lib.cell_of_heap HE2.out]; rfl
      have HRUN := hid (packs_run eP (.slice pa pn pc) (w1.setCell ⟨wr.heap.size, 2, none⟩ (.slice ua eR.length uc)) w.heap.size (by simp [World.setCell]; omega) HFF.out.pk (HPK2.out _) HEE.out.2)
      obtain ⟨pv', w3, hrun, hown3, hg3⟩ := HRUN.out
      have HRR := hid hrun
      have HB3 := hid ((HB2.out.setCell (p := ⟨wr.heap.size, 2, none⟩) hsz (.slice ua eR.length uc)).grown hg3 (by simp [World.setCell]; omega) (fun k hk => by cases hk))
      have HE3 := hid (show w3.heap[wr.heap.size]? = some (.cells #[.string p, .string q, .slice ua eR.length uc, .slice pa pn pc, .bool bk] 55 (0, 0)) by
        rw [hg3.block _ (by simp [World.setCell]; omega) (by simp)]; exact set_block HE2.out)
      have HPV := hid hown3
      have HUU := hid (own_none (own_setN HU.out HE2.out (o := 2) (x := .slice ua eR.length uc) (by decide)) hg3)
      have HQ3 := hid ((HQ2.out.set HE2.out hnb).noneg hg3)
      have hsz3 : wr.heap.size < w3.heap.size := lt_of_blk HE3.out
      obtain ⟨va, vc, hv⟩ := own_slN hown3
      subst hv
      clear hown3 hg3 HRUN hrun
      have fz3 : ∀ o, w3.frozen? ⟨wr.heap.size, o, none⟩ = false := fun o => by simp [World.frozen?, HE3.out]
      have y0 : w3.cell? ⟨wr.heap.size, 0, none⟩ = some (.string p) := by rw [Lib.cell_of_heap HE3.out]; rfl
      have y1 : w3.cell? ⟨wr.heap.size, 1, none⟩ = some (.string q) := by rw [Lib.cell_of_heap HE3.out]; rfl
      have y2 : w3.cell? ⟨wr.heap.size, 2, none⟩ = some (.slice ua eR.length uc) := by rw [Lib.cell_of_heap HE3.out]; rfl
      have y3 : w3.cell? ⟨wr.heap.size, 3, none⟩ = some (.slice pa pn pc) := by rw [Lib.cell_of_heap HE3.out]; rfl
      have y4 : w3.cell? ⟨wr.heap.size, 4, none⟩ = some (.bool bk) := by rw [Lib.cell_of_heap HE3.out]; rfl
      have HB4 := hid (HB3.out.setCell (p := ⟨wr.heap.size, 3, none⟩) hsz (.slice va eP.length vc))
      have HQ4 := hid (HQ3.out.set (o := 3) (x := .slice va eP.length vc) HE3.out hnb)
      have HEN := hid (show OwnE w.heap.size (w3.setCell ⟨wr.heap.size, 3, none⟩ (.slice va eP.length vc)) ((p, q), .slice ua eR.length uc, .slice va eP.length vc, bk) ((p, q), eR, eP, bk) from
        ⟨rfl, own_setN HUU.out HE3.out (by decide), own_setN HPV.out HE3.out (by decide), rfl⟩)
      have hk1000 : k < 1000 := by omega
      go_wp2_with (at_builtin; first
        | refine wpList_append_own _ rfl _ _ 22 rfl w.heap.size 55 i0 _ 5 88 Tryz.underlying22 hi0 hz0 hz1 hz2 rfl (by decide) _ _ _ rfl (HQ4.out.row.alloc _) ⟨w3.heap.size, 0, none⟩ 1 1 [.string p, .string q, .slice ua eR.length uc, .slice va eP.length vc, .bool bk] rfl rfl ?c1 ?c2 ?c3 ?c4 ?c5 ?_
        | refine Lib.wpList_append_run _ rfl _ _ _ _ rfl _ _ rfl rfl _ _ HRR.out ?_)
      case c1 => exact World.news_of_block (cs := #[.string p, .string q, .slice ua eR.length uc, .slice va eP.length vc, .bool bk]) (t := 55) (fr := (0, 0)) (by have := heap_alloc_new (w3.setCell ⟨wr.heap.size, 3, none⟩ (.slice va eP.length vc)) (.cells #[.string p, .string q, .slice ua eR.length uc, .slice va eP.length vc, .bool bk] 55); simpa [World.setCell] using this)
      case c2 =>
        intro u hu
        simp at hu
        rcases hu with rfl | rfl | rfl | rfl | rfl <;> rfl
      case c3 => unfold maxLen; omega
      case c4 => omega
      case c5 => simp [World.setCell]; omega
      intro v' w5 hown hgrow _
      have HBA := hid (HB4.out.alloc HB4.out.size (.cells #[.string p, .string q, .slice ua eR.length uc, .slice va eP.length vc, .bool bk] 55))
      have HB5 := hid (HBA.out.grown hgrow HBA.out.size (fun k hk => (HQ4.out.row.lt k hk).1))
      have HBy := hid ((Below.refl _ (w3.setCell ⟨wr.heap.size, 3, none⟩ (.slice va eP.length vc))).alloc (Nat.le_refl _) (.cells #[.string p, .string q, .slice ua eR.length uc, .slice va eP.length vc, .bool bk] 55))
      have HR := hid (HM.out _ _ _ _ ((p, q), .slice ua eR.length uc, .slice va eP.length vc, bk) (HQ4.out.below HBy.out) (HEN.out.below HBy.out) hgrow (by rw [hql]; exact hown))
      clear hown hgrow y0 y1 y2 y3 y4 fz3 z0 z1 z2 z3 z4 fz
      go_wp2_with fail
      go_roundw
      case rel => exact ⟨k + 1, by have := HLT.out; omega, by go_num, hid ⟨_, HR.out⟩, HB5⟩
      case measure => have := HLT.out; simp [intOf]; omega
    · have HTR := hid (show L.take k = L from List.take_of_length_le (by omega))
      have hkI : ¬ (k : Int) < (L.length : Int) := by omega
      clear hlt
      go_wp2_with fail
      go_ret
      obtain ⟨Q', hQ'⟩ := HO.out
      rw [HTR.out] at hQ'
      exact ⟨_, rfl, ⟨Q', hQ'⟩, HB.out⟩
end Ve
end Go.Proofs.YtpafkniapacfdaaGreatDoor


namespace Go.Proofs.YtpafkniapacfdaaGreatDoor
open Go.RowKit
namespace Ve
end Ve
end Go.Proofs.YtpafkniapacfdaaGreatDoor


namespace Go.Proofs.YtpafkniapacfdaaGreatDoor
open Go.RowKit
namespace Ve
end Ve
end Go.Proofs.YtpafkniapacfdaaGreatDoor


namespace Go.Proofs.YtpafkniapacfdaaGreatDoor
open Go.RowKit
namespace Ve
end Ve
end Go.Proofs.YtpafkniapacfdaaGreatDoor
