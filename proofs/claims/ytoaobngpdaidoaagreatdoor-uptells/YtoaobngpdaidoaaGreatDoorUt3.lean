
import Derived.Test.YtoaobngpdaidoaaGreatDoorProg
import Derived.Test.YtoaobngpdaidoaaGreatDoorUt2
import Derived.Test.YtoaobngpdaidoaaGreatDoorUt1
import Derived.Test.YtoaobngpdaidoaaGreatDoorOrdD
import Derived.Test.YtoaobngpdaidoaaGreatDoorLessAny
import Derived.Laws.OwnMore
import Derived.Deep.RegionHeld
import Derived.Lib.SliceRun
import Derived.Shelf.SlSortCmp.WholeK
import Derived.Calls



namespace Go.Proofs.YtoaobngpdaidoaaGreatDoor
open Go.RowKit Go.Maps Go.Sort Go.Lib
namespace Ve
end Ve
end Go.Proofs.YtoaobngpdaidoaaGreatDoor


namespace Go.Proofs.YtoaobngpdaidoaaGreatDoor
open Go.RowKit Go.Maps
namespace Ve
structure Rgt (Q : List Raw) (L : List Ent) (roots : List Bm) : Prop where
  c : (chk Q L).1 = 0
  r : ∀ m, m ∈ roots → m ∈ univ L
theorem rgt_of {w : World} {v : Value} {Q : List Raw} {L : List Ent} {roots : List Bm} (I : Ixs w v Q L) (h0 : (chkG Q L roots).1 = 0) : Rgt Q L roots := by
  have hc0 : (chk Q L).1 = 0 := by
    by_cases hc : (chk Q L).1 = 0
    · exact hc
    · rw [chkG_bad hc] at h0; exact absurd h0 hc
  exact ⟨hc0, by rw [chkG_ok hc0] at h0; exact nonE_found I h0⟩
end Ve
end Go.Proofs.YtoaobngpdaidoaaGreatDoor


namespace Go.Proofs.YtoaobngpdaidoaaGreatDoor
open Go.RowKit Go.Maps
namespace Ve
def ma0 : Bm := (⟨#[97]⟩, ⟨#[118, 49, 46, 48, 46, 48]⟩)
def ma1 : Bm := (⟨#[97]⟩, ⟨#[118, 49, 46, 49, 46, 48]⟩)
def mb0 : Bm := (⟨#[98]⟩, ⟨#[118, 48, 46, 49, 46, 48]⟩)
def smL : List Ent := [(ma0, [], [], false), (ma1, [mb0], [], false), (mb0, [], [], false)]
def smQ (g : Nat) : List Raw := [(ma0, .slice none 0 0, .slice none 0 0, false), (ma1, .slice (some ⟨g, 0, none⟩) 1 1, .slice none 0 0, false), (mb0, .slice none 0 0, .slice none 0 0, false)]
theorem pk_nilS : packErr (bl []) = 0 := pk_ok (by decide) rfl (by simp [risB, srtB, bl, Lib.compact, Lib.compactUpTo])
theorem sm_e0 : entE smL 0 = 0 := by
  show entW none _ = 0
  rw [entW_none (by kernel_rfl), entR_pack (by decide) (by kernel_rfl)]
  exact pk_nilS
theorem sm_e1 : entE smL 1 = 0 := by
  show entW (some _) _ = 0
  rw [entW_some (by kernel_rfl) (by kernel_rfl), entR_pack (by decide) (by kernel_rfl)]
  exact pk_nilS
theorem sm_e2 : entE smL 2 = 0 := by
  show entW (some _) _ = 0
  rw [entW_some (by kernel_rfl) (by kernel_rfl), entR_pack (by decide) (by kernel_rfl)]
  exact pk_nilS
theorem sm_chk (g : Nat) : chk (smQ g) smL = (0, none) := by
  have h2 : ∀ j, j < 3 → entE smL j = 0 := fun j hj => by
    rcases (by omega : j = 0 ∨ j = 1 ∨ j = 2) with rfl | rfl | rfl
    · exact sm_e0
    · exact sm_e1
    · exact sm_e2
  have h : fstE (entE smL) smL.length = none := fstE_none h2
  rw [chk_reqs (by decide) h]
  exact Prod.ext (show codeE (reqE2 (smQ g) smL) smL.length = 0 by kernel_rfl) (show fstE (reqE2 (smQ g) smL) smL.length = none by kernel_rfl)
theorem sm_r1 (g : Nat) : reqQ (smQ g) smL ma1 = [mb0] := by kernel_rfl
theorem sm_rb (g : Nat) : reqQ (smQ g) smL mb0 = [] := by kernel_rfl
theorem sm_ixs {W : World} {g q : Nat} (hb : W.heap[q]? = some (.cells #[.string ⟨#[97]⟩, .string ⟨#[118, 49, 46, 48, 46, 48]⟩, .slice none 0 0, .slice none 0 0, .bool false, .string ⟨#[97]⟩, .string ⟨#[118, 49, 46, 49, 46, 48]⟩, .slice (some ⟨g, 0, none⟩) 1 1, .slice none 0 0, .bool false, .string ⟨#[98]⟩, .string ⟨#[118, 48, 46, 49, 46, 48]⟩, .slice none 0 0, .slice none 0 0, .bool false] 56 (0, 0)))
    (hg : W.heap[g]? = some (.cells #[.string ⟨#[98]⟩, .string ⟨#[118, 48, 46, 49, 46, 48]⟩] 46 (0, 0))) :
    Ixs W (.slice (some ⟨q, 0, none⟩) 3 3) (smQ g) smL := by
  have msn : MsAt W (.slice none 0 0) [] := ⟨none, 0, rfl, Nat.le_refl _, fun h => absurd rfl h⟩
  have txn : TxAt W (.slice none 0 0) [] := ⟨none, 0, rfl, Nat.le_refl _, fun h => absurd rfl h⟩
  have msb : MsAt W (.slice (some ⟨g, 0, none⟩) 1 1) [mb0] := ⟨some ⟨g, 0, none⟩, 1, rfl, Nat.le_refl _, fun _ => ⟨g, 0, rfl, fun j hj => by
    have : j = 0 := by simp at hj; exact hj
    subst this
    refine ⟨?_, ?_⟩ <;> (rw [Lib.cell_of_heap hg]; rfl)⟩⟩
  refine ⟨⟨some ⟨q, 0, none⟩, 3, rfl, Nat.le_refl _, fun r hr => ?_, fun _ => ⟨q, 0, rfl, fun j hj => ?_⟩⟩, rfl, fun j h1 h2 => ?_⟩
  · have : r = (ma0, .slice none 0 0, .slice none 0 0, false) ∨ r = (ma1, .slice (some ⟨g, 0, none⟩) 1 1, .slice none 0 0, false) ∨ r = (mb0, .slice none 0 0, .slice none 0 0, false) := by simpa [smQ] using hr
    rcases this with rfl | rfl | rfl
    · exact ⟨⟨none, 0, 0, rfl⟩, none, 0, 0, rfl⟩
    · exact ⟨⟨_, _, _, rfl⟩, none, 0, 0, rfl⟩
    · exact ⟨⟨none, 0, 0, rfl⟩, none, 0, 0, rfl⟩
  · have hj2 : j < 3 := hj
    rcases (by omega : j = 0 ∨ j = 1 ∨ j = 2) with rfl | rfl | rfl
    · refine ⟨?_, ?_, ?_, ?_, ?_⟩ <;> (rw [Lib.cell_of_heap hb]; rfl)
    · refine ⟨?_, ?_, ?_, ?_, ?_⟩ <;> (rw [Lib.cell_of_heap hb]; rfl)
    · refine ⟨?_, ?_, ?_, ?_, ?_⟩ <;> (rw [Lib.cell_of_heap hb]; rfl)
  · have hj2 : j < 3 := h1
    rcases (by omega : j = 0 ∨ j = 1 ∨ j = 2) with rfl | rfl | rfl
    · exact ⟨rfl, msn, txn, rfl⟩
    · exact ⟨rfl, msb, txn, rfl⟩
    · exact ⟨rfl, msn, txn, rfl⟩
theorem sm_sh : ∀ e, e ∈ smL → ShE e := fun e he => by
  have : e = smL[0] ∨ e = smL[1] ∨ e = smL[2] := by simpa [smL] using he
  rcases this with rfl | rfl | rfl
  · exact ⟨by decide, by decide, by decide, fun m hm => (by cases hm), by decide, fun x hx => (by cases hx)⟩
  · exact ⟨by decide, by decide, by decide, fun m hm => (by have : m = mb0 := List.mem_singleton.1 hm
                                                            subst this; exact ⟨by decide, by decide⟩), by decide, fun x hx => (by cases hx)⟩
  · exact ⟨by decide, by decide, by decide, fun m hm => (by cases hm), by decide, fun x hx => (by cases hx)⟩
set_option maxHeartbeats 2000000 in
theorem smallI_any (w : World) : Calls Tryz.prog 31 #[] w fun e w' => ∃ g q, e = .returned (.slice (some ⟨q, 0, none⟩) 3 3) ∧ Ixs w' (.slice (some ⟨q, 0, none⟩) 3 3) (smQ g) smL ∧ Below w.heap.size w w' := by
  go_enter Tryz.func31, Tryz.ntmps31
  go_wp2_with fail
  go_ret
  refine ⟨w.heap.size, w.heap.size + 1, rfl, ?_, ((Below.refl w.heap.size w).alloc (Nat.le_refl _) _).alloc (by simp) _⟩
  have h2 := heap_alloc_new (w.alloc (.cells #[.string ⟨#[98]⟩, .string ⟨#[118, 48, 46, 49, 46, 48]⟩] 46)) (.cells #[.string ⟨#[97]⟩, .string ⟨#[118, 49, 46, 48, 46, 48]⟩, .slice none 0 0, .slice none 0 0, .bool false, .string ⟨#[97]⟩, .string ⟨#[118, 49, 46, 49, 46, 48]⟩, .slice (some ⟨w.heap.size, 0, none⟩) 1 1, .slice none 0 0, .bool false, .string ⟨#[98]⟩, .string ⟨#[118, 48, 46, 49, 46, 48]⟩, .slice none 0 0, .slice none 0 0, .bool false] 56)
  rw [show (w.alloc (.cells #[.string ⟨#[98]⟩, .string ⟨#[118, 48, 46, 49, 46, 48]⟩] 46)).heap.size = w.heap.size + 1 by simp] at h2
  exact sm_ixs h2 (heap_old _ _ (heap_new w _))
end Ve
end Go.Proofs.YtoaobngpdaidoaaGreatDoor


namespace Go.Proofs.YtoaobngpdaidoaaGreatDoor
open Go.RowKit
namespace Ve
def okLN (N : Nat) (L : List Bm) : Bool := decide (L.length ≤ N) && L.all okM
theorem okLN_iff {N : Nat} {L : List Bm} (h : okLN N L = true) : L.length ≤ N ∧ ∀ m, m ∈ L → m.1.size ≤ 70 ∧ m.2.size ≤ 60 := by
  unfold okLN at h
  rw [Bool.and_eq_true] at h
  refine ⟨of_decide_eq_true h.1, fun m hm => ?_⟩
  have := List.all_eq_true.1 h.2 m hm
  unfold okM at this
  rw [Bool.and_eq_true] at this
  exact ⟨of_decide_eq_true this.1, of_decide_eq_true this.2⟩
set_option maxHeartbeats 1000000 in
theorem longN_some (N : Nat) (hN : N ≤ 1000) (L : List Bm) (b o c : Nat) (w : World) (hn : L.length ≤ N)
    (hc : ∀ j (h : j < L.length), w.cell? ⟨b, o + j * 2, none⟩ = some (.string L[j].1) ∧ w.cell? ⟨b, o + j * 2 + 1, none⟩ = some (.string L[j].2)) :
    Calls Tryz.prog 9 #[.slice (some ⟨b, o, none⟩) L.length c, .int .i64 (N : Int)] w fun e w' => e = .returned (.int .i64 (if okLN N L then 0 else 1)) ∧ w' = w := by
  have HC := hid hc
  have HO := hid (show okLN N L = L.all okM by unfold okLN; rw [decide_eq_true hn, Bool.true_and])
  have hn2 : ¬ (N : Int) < (L.length : Int) := by omega
  generalize hr : (if okLN N L then (0 : Int) else 1) = r
  have HR := hid hr
  clear hc hr
  go_enter Tryz.func9, Tryz.ntmps9
  go_wp2_with fail
  go_loop [5] (fun i => ∃ k : Nat, k ≤ L.length ∧ i = .int .i64 k ∧ Hid ((L.take k).all okM = true)) (fun i => L.length - (intOf i).toNat)
  case atStart => exact ⟨0, Nat.zero_le _, rfl, hid rfl⟩
  case round =>
    obtain ⟨k, hk, rfl, HA⟩ := hrel
    by_cases hlt : k < L.length
    · have hx := (HC.out k hlt).1
      have hy := (HC.out k hlt).2
      have HN := hid (fun h => all_take_next hlt HA.out h)
      have HX := hid (fun h => all_not hlt h)
      have HLT := hid hlt
      have hkI : (k : Int) < (L.length : Int) := by omega
      generalize L[k] = x at *
      clear hlt
      obtain ⟨p, v⟩ := x
      by_cases h1 : p.size ≤ 70
      · have h1' : ¬ (70 : Int) < (p.size : Int) := by omega
        by_cases h2 : v.size ≤ 60
        · have h2' : ¬ (60 : Int) < (v.size : Int) := by omega
          have HT := hid (HN.out (by unfold okM; rw [decide_eq_true h1, decide_eq_true h2]; rfl))
          go_wp2_with fail
          go_round
          case rel => exact ⟨k + 1, by have := HLT.out; omega, by go_num, HT⟩
          case measure => have := HLT.out; simp [intOf]; omega
        · have h2' : (60 : Int) < (v.size : Int) := by omega
          have HT := hid (HX.out (by unfold okM; rw [decide_eq_true h1, decide_eq_false h2]; rfl))
          go_wp2_with fail
          go_ret
          exact ⟨by rw [← HR.out, HO.out, HT.out]; rfl, rfl⟩
      · have h1' : (70 : Int) < (p.size : Int) := by omega
        have HT := hid (HX.out (by unfold okM; rw [decide_eq_false h1]; rfl))
        go_wp2_with fail
        go_ret
        exact ⟨by rw [← HR.out, HO.out, HT.out]; rfl, rfl⟩
    · have HT := hid (show L.all okM = true by have := HA.out; rw [List.take_of_length_le (by omega)] at this; exact this)
      go_wp2_with fail
      go_ret
      exact ⟨by rw [← HR.out, HO.out, HT.out]; rfl, rfl⟩
theorem longN_none (N : Nat) (a : Option Addr) (c : Nat) (w : World) : Calls Tryz.prog 9 #[.slice a 0 c, .int .i64 (N : Int)] w fun e w' => e = .returned (.int .i64 0) ∧ w' = w := by
  go_enter Tryz.func9, Tryz.ntmps9
  go_wp2_with fail
  go_loop [5] (fun i => i = .int .i64 0) (fun i => 0)
  case atStart => exact rfl
  case round =>
    obtain rfl := hrel
    go_wp2_with fail
    go_ret
    exact ⟨rfl, rfl⟩
theorem longN_many (N : Nat) (a : Option Addr) (n c : Nat) (w : World) (hn : N < n) : Calls Tryz.prog 9 #[.slice a n c, .int .i64 (N : Int)] w fun e w' => e = .returned (.int .i64 1) ∧ w' = w := by
  have hn2 : (N : Int) < (n : Int) := by omega
  go_enter Tryz.func9, Tryz.ntmps9
  go_wp2_with fail
  go_ret
  exact ⟨rfl, rfl⟩
theorem longN_any (N : Nat) (hN : N ≤ 1000) (L : List Bm) (v : Value) (w : World) (hv : MsAt w v L) : Calls Tryz.prog 9 #[v, .int .i64 (N : Int)] w fun e w' => e = .returned (.int .i64 (if okLN N L then 0 else 1)) ∧ w' = w := by
  obtain ⟨a, c, rfl, _, h⟩ := hv
  by_cases hn : L.length ≤ N
  · cases L with
    | nil => exact longN_none N a c w
    | cons x r =>
      obtain ⟨b, o, rfl, h2⟩ := h (by simp)
      exact longN_some N hN (x :: r) b o c w hn h2
  · have : okLN N L = false := by unfold okLN; rw [decide_eq_false hn]; rfl
    rw [this]
    exact longN_many N a L.length c w (by omega)
end Ve
end Go.Proofs.YtoaobngpdaidoaaGreatDoor


namespace Go.Proofs.YtoaobngpdaidoaaGreatDoor
open Go.RowKit Go.Maps
namespace Ve
def eqM (x m : Bm) : Bool := decide (x.1 = m.1 ∧ x.2 = m.2)
theorem eqM_run (x m : Bm) (W : World) : (binOp .eql 46 (.agg #[.string x.1, .string x.2]) (.agg #[.string m.1, .string m.2])).run Tryz.prog W = .ok (.bool (eqM x m)) W := modEql x.1 x.2 m.1 m.2 W
set_option maxRecDepth 100000 in
set_option maxHeartbeats 1000000 in
theorem findOf_some (L : List Raw) (m : Bm) (b o c : Nat) (w : World) (hL : L.length ≤ 1000000)
    (hc : ∀ j (h : j < L.length), w.cell? ⟨b, o + j * 5, none⟩ = some (.string L[j].1.1) ∧ w.cell? ⟨b, o + j * 5 + 1, none⟩ = some (.string L[j].1.2)) :
    Calls Tryz.prog 26 #[.slice (some ⟨b, o, none⟩) L.length c, .agg #[.string m.1, .string m.2]] w fun e w' => e = .returned (.int .i64 (idxOf (isM m) L)) ∧ Below w.heap.size w w' := by
  have HC := hid hc
  have hgd := modGuard
  generalize hr : idxOf (isM m) L = r
  have HR := hid hr
  have HB0 := hid ((Below.refl w.heap.size w).alloc (Nat.le_refl _) (.cells #[.string m.1, .string m.2] 46))
  have HE0 := hid (heap_new w (.cells #[.string m.1, .string m.2] 46))
  clear hc hr
  go_enter Tryz.func26, Tryz.ntmps26
  go_wp2_with fail
  generalize hw1 : w.alloc (.cells #[.string m.1, .string m.2] 46) = w1 at *
  clear hw1
  go_loopw [5] (fun i wr => ∃ k : Nat, k ≤ L.length ∧ i = .int .i64 k ∧ Hid (∀ j (h : j < L.length), j < k → isM m L[j] = false) ∧ Hid (Below w1.heap.size w1 wr)) (fun i _ => L.length - (intOf i).toNat)
  case atStart => exact ⟨0, Nat.zero_le _, rfl, hid (fun j _ hj => absurd hj (by omega)), hid (Below.refl _ _)⟩
  case round =>
    obtain ⟨k, hk, rfl, HA, HB⟩ := hrel
    have HBw := hid (HB0.out.trans (HB.out.mono HB0.out.size))
    by_cases hlt : k < L.length
    · have x0 := cell_below HBw.out (HC.out k hlt).1
      have x1 := cell_below HBw.out (HC.out k hlt).2
      have hE : wr.heap[w.heap.size]? = some (.cells #[.string m.1, .string m.2] 46 (0, 0)) := (HB.out.block _ (lt_of_blk HE0.out)).trans HE0.out
      have y0 : wr.cell? ⟨w.heap.size, 0, none⟩ = some (.string m.1) := by rw [Lib.cell_of_heap hE]; rfl
      have y1 : wr.cell? ⟨w.heap.size, 1, none⟩ = some (.string m.2) := by rw [Lib.cell_of_heap hE]; rfl
      have HF := hid (fun h => idx_hit hlt HA.out h)
      have HN := hid (fun h => idx_next hlt HA.out h)
      have HEQ := hid (show isM m L[k] = eqM L[k].1 m from rfl)
      have hkI : (k : Int) < (L.length : Int) := by omega
      have HLT := hid hlt
      clear hE
      generalize L[k] = x at *
      clear hlt
      have heq := fun W => eqM_run x.1 m W
      cases he : eqM x.1 m with
      | false =>
        rw [he] at heq HEQ
        have HN2 := hid (HN.out HEQ.out)
        clear HF HN HEQ he
        go_wp2_with fail
        go_quiet (fail)
        go_wp2_with fail
        go_roundw
        case rel => first | exact ⟨k + 1, HLT.out, nr_idx k, HN2, hid (below_drawn_of HB.out _)⟩ | exact ⟨k + 1, HLT.out, nx_idx HLT.out hL, HN2, hid (below_drawn_of HB.out _)⟩
        case measure => first | exact nr_meas HLT.out | exact nx_meas HLT.out hL
      | true =>
        rw [he] at heq HEQ
        have HF2 := hid (HF.out HEQ.out)
        clear HF HN HEQ he
        go_wp2_with fail
        go_quiet (fail)
        go_wp2_with fail
        go_ret
        exact ⟨by rw [← HR.out, HF2.out]; rfl, below_drawn_of HBw.out _⟩
    · have HF := hid (show idxOf (isM m) L = -1 by unfold idxOf; rw [fstE_none (idxE_zero (Nat.le_refl _) (fun j hj _ => HA.out j hj (by omega)))])
      have hkI : ¬ (k : Int) < (L.length : Int) := by omega
      clear hlt
      go_wp2_with fail
      go_ret
      exact ⟨by rw [← HR.out, HF.out]; rfl, HBw.out⟩
theorem findOf_any (L : List Raw) (m : Bm) (v : Value) (w : World) (hL : L.length ≤ 1000000) (h0 : 0 < L.length) (hv : EsAt w v L) :
    Calls Tryz.prog 26 #[v, .agg #[.string m.1, .string m.2]] w fun e w' => e = .returned (.int .i64 (idxOf (isM m) L)) ∧ Below w.heap.size w w' := by
  obtain ⟨a, c, rfl, _, _, h⟩ := hv
  obtain ⟨b, o, rfl, h2⟩ := h (fun e => by rw [e] at h0; exact absurd h0 (Nat.lt_irrefl _))
  exact findOf_some L m b o c w hL (fun j hj => ⟨(h2 j hj).1, (h2 j hj).2.1⟩)
end Ve
end Go.Proofs.YtoaobngpdaidoaaGreatDoor


namespace Go.Proofs.YtoaobngpdaidoaaGreatDoor
open Go.RowKit Go.Maps
namespace Ve
theorem chkG_in {w : World} {v : Value} {Q : List Raw} {L : List Ent} {R : List Bm} (I : Ixs w v Q L) (hc : (chk Q L).1 = 0) (h : ∀ m, m ∈ R → m ∈ univ L) : (chkG Q L R).1 = 0 := by
  rw [chkG_ok hc]
  have : fstE (nonE Q R) R.length = none := fstE_none fun j hj => by
    rw [nonE_at hj]
    unfold nonW
    obtain ⟨k, hk⟩ := (found_iff I R[j]).1 (h _ (List.getElem_mem hj))
    rw [hk, if_neg (by omega)]
  exact codeE_none this
end Ve
end Go.Proofs.YtoaobngpdaidoaaGreatDoor


namespace Go.Proofs.YtoaobngpdaidoaaGreatDoor
open Go.RowKit
namespace Ve
set_option maxHeartbeats 1000000 in
theorem isLess_any (s t : ByteArray) (w : World) (hs : s.size < 999999) (ht : t.size < 999999) :
    Calls Tryz.prog 59 #[.string s, .string t] w fun e w' => e = .returned (.bool (lessB s.data.toList t.data.toList)) ∧ Below w.heap.size w w' := by
  have HL := hid (show lessB s.data.toList t.data.toList = (decide (verErr s.data.toList = 0) && (decide (verErr t.data.toList = 0) && decide (ordV s.data.toList t.data.toList < 0))) from rfl)
  have HA := hid (isVer_any s w (by omega))
  have HT := hid (fun W => isVer_any t W (by omega))
  by_cases h1 : verErr s.data.toList = 0
  all_goals by_cases h2 : verErr t.data.toList = 0
  · have HO := hid (fun W => orderVer_any s t W hs ht h1 h2)
    rw [decide_eq_true h1] at HA
    rw [decide_eq_true h2] at HT
    rw [decide_eq_true h1, decide_eq_true h2] at HL
    clear h1 h2
    generalize ordV s.data.toList t.data.toList = k at *
    go_enter Tryz.func59, Tryz.ntmps59
    go_wp2_with fail
    refine HA.out.mono ?_
    rintro e w1 ⟨rfl, hb1⟩
    have HB1 := hid hb1
    clear hb1
    go_wp2_with fail
    refine (HT.out _).mono ?_
    rintro e w2 ⟨rfl, hb2⟩
    have HB2 := hid (HB1.out.trans (hb2.mono HB1.out.size))
    clear hb2
    go_wp2_with fail
    refine (HO.out _).mono ?_
    rintro e w3 ⟨rfl, hb3⟩
    have HB3 := hid (HB2.out.trans (hb3.mono HB2.out.size))
    clear hb3
    go_wp2_with fail
    go_ret
    exact ⟨ret_bool (by rw [HL.out]; rfl), HB3.out⟩
  · rw [decide_eq_true h1] at HA
    rw [decide_eq_false h2] at HT
    rw [decide_eq_true h1, decide_eq_false h2] at HL
    clear h1 h2
    go_enter Tryz.func59, Tryz.ntmps59
    go_wp2_with fail
    refine HA.out.mono ?_
    rintro e w1 ⟨rfl, hb1⟩
    have HB1 := hid hb1
    clear hb1
    go_wp2_with fail
    refine (HT.out _).mono ?_
    rintro e w2 ⟨rfl, hb2⟩
    have HB2 := hid (HB1.out.trans (hb2.mono HB1.out.size))
    clear hb2
    go_wp2_with fail
    go_ret
    exact ⟨ret_bool (by rw [HL.out]; rfl), HB2.out⟩
  · rw [decide_eq_false h1] at HA
    rw [decide_eq_true h2] at HT
    rw [decide_eq_false h1] at HL
    clear h1 h2
    go_enter Tryz.func59, Tryz.ntmps59
    go_wp2_with fail
    refine HA.out.mono ?_
    rintro e w1 ⟨rfl, hb1⟩
    have HB1 := hid hb1
    clear hb1
    go_wp2_with fail
    refine (HT.out _).mono ?_
    rintro e w2 ⟨rfl, hb2⟩
    have HB2 := hid (HB1.out.trans (hb2.mono HB1.out.size))
    clear hb2
    go_wp2_with fail
    go_ret
    exact ⟨ret_bool (by rw [HL.out]; rfl), HB2.out⟩
  · rw [decide_eq_false h1] at HA
    rw [decide_eq_false h2] at HT
    rw [decide_eq_false h1] at HL
    clear h1 h2
    go_enter Tryz.func59, Tryz.ntmps59
    go_wp2_with fail
    refine HA.out.mono ?_
    rintro e w1 ⟨rfl, hb1⟩
    have HB1 := hid hb1
    clear hb1
    go_wp2_with fail
    refine (HT.out _).mono ?_
    rintro e w2 ⟨rfl, hb2⟩
    have HB2 := hid (HB1.out.trans (hb2.mono HB1.out.size))
    clear hb2
    go_wp2_with fail
    go_ret
    exact ⟨ret_bool (by rw [HL.out]; rfl), HB2.out⟩
end Ve
end Go.Proofs.YtoaobngpdaidoaaGreatDoor


namespace Go.Proofs.YtoaobngpdaidoaaGreatDoor
open Go.RowKit Go.Maps
namespace Ve
theorem both_run (X Y : List Bm) (dv sv : Value) (W : World) (B : Nat) (hB : B ≤ W.heap.size) (hX : X.length ≤ 1000) (hY : Y.length ≤ 1000) (ho : W.ownsRow B 46 2 dv X.length (flatM X)) (h : MsAt W sv Y) (he : Em sv Y) :
    ∃ v' W', (Builtin.append_ #[23, 23] 23 #[dv, sv]).run Tryz.prog W = .ok v' W' ∧ W'.ownsRow B 46 2 v' (X ++ Y).length (flatM (X ++ Y)) ∧ W.grownBy W' dv.ownBlock := by
  obtain ⟨i0, hi, hz0, hz1, hz2⟩ := info_parts infoMod
  obtain ⟨a, c, rfl, hc, h2⟩ := h
  have some_case : ∀ a', (∀ j u, (flatM Y)[j]? = some u → W.cell? (a'.add j) = some u) → ∃ v' W', (Builtin.append_ #[23, 23] 23 #[dv, .slice (some a') Y.length c]).run Tryz.prog W = .ok v' W' ∧ W'.ownsRow B 46 2 v' (X ++ Y).length (flatM (X ++ Y)) ∧ W.grownBy W' dv.ownBlock := fun a' hcell => by
    obtain ⟨v', W', h3, h4, h5, _⟩ := run_append_own (P := Tryz.prog) W B 23 23 46 i0 _ 2 32 Tryz.underlying23 hi hz0 hz1 hz2 rfl (by decide) dv X.length (flatM X) ho a' Y.length c (flatM Y) (flatM_len Y) hcell (flat_one Y) (by unfold maxLen; omega) (by omega) hB
    exact ⟨v', W', h3, by rw [List.length_append, flatM_app]; exact h4, h5⟩
  cases Y with
  | nil =>
    rcases he a c rfl rfl with hz | ⟨a', hz⟩
    · refine ⟨dv, W, ?_, by simpa using ho, ⟨rfl, rfl, rfl, Nat.le_refl _, fun _ _ _ => rfl⟩⟩
      show (Builtin.append_ #[23, 23] 23 #[dv, .slice a 0 c]).run Tryz.prog W = _
      rw [hz]
      exact run_append_owned_none (P := Tryz.prog) (w := W) B 23 23 46 i0 2 Tryz.underlying23 hi dv X.length (flatM X) ho
    · have hz' : (Value.slice a ([] : List Bm).length c) = .slice (some a') ([] : List Bm).length c := hz
      rw [hz']
      exact some_case a' (fun j u hj => by simp [flatM] at hj)
  | cons x r =>
    obtain ⟨b, o, rfl, hcell⟩ := h2 (by simp)
    exact some_case ⟨b, o, none⟩ (fun j u hj => by rw [Addr.add_lit]; exact ms_flat hcell j u hj)
set_option maxHeartbeats 1000000 in
theorem isA_any (a b : Bm) (w : World) (hv : a.2.size < 999999) (hu : b.2.size < 999999) :
    Calls Tryz.prog 103 #[.agg #[.string a.1, .string a.2], .agg #[.string b.1, .string b.2]] w fun e w' => e = .returned (.bool (mAhead a b)) ∧ Below w.heap.size w w' := by
  obtain ⟨p, v⟩ := a
  obtain ⟨q, u⟩ := b
  have HO := hid (show mAhead (p, v) (q, u) = if p.data.toList = q.data.toList then lessB v.data.toList u.data.toList else decide (Lib.compareBytes p.data.toList q.data.toList < 0) from rfl)
  have HB0 := hid (((Below.refl w.heap.size w).alloc (Nat.le_refl _) (.cells #[.string p, .string v] 46)).alloc (by simp) (.cells #[.string q, .string u] 46))
  simp only at hv hu
  by_cases h : p = q
  · subst h
    rw [if_pos rfl] at HO
    have he := str_refl p
    have HL := hid (fun W => isLess_any v u W hv hu)
    go_enter Tryz.func103, Tryz.ntmps103
    go_wp2_with fail
    refine (HL.out _).mono ?_
    rintro e w1 ⟨rfl, hb⟩
    have HB := hid (HB0.out.trans (hb.mono HB0.out.size))
    clear hb
    go_wp2_with fail
    go_ret
    exact ⟨ret_bool HO.out.symm, HB.out⟩
  · rw [if_neg (fun e => h (str_ext e))] at HO
    have he := str_ne h
    have HC := hid (show Op.bytesLess p.toList q.toList = decide (Lib.compareBytes p.data.toList q.data.toList < 0) by rw [cb_less, ByteArray.toList_eq, ByteArray.toList_eq])
    clear h
    go_enter Tryz.func103, Tryz.ntmps103
    go_wp2_with fail
    go_ret
    exact ⟨ret_bool (by rw [HO.out, ← HC.out]), HB0.out⟩
theorem univ_eq {w : World} {v : Value} {Q : List Raw} {L : List Ent} (I : Ixs w v Q L) : Q.map (fun r => r.1) = univ L := by
  apply List.ext_getElem
  · simp [univ, I.ln]
  · intro j h1 h2
    have hq : j < Q.length := by simpa using h1
    have hl : j < L.length := by rw [← I.ln]; exact hq
    simp only [univ, List.getElem_map]
    exact (I.ok j hq hl).m
theorem univ_rises {Q : List Raw} {L : List Ent} (h : (chk Q L).1 = 0) : (univ L).Pairwise fun a b => mAhead a b = true := by
  rw [List.pairwise_iff_getElem]
  intro i j hi hj hij
  have hi2 : i < L.length := by simpa [univ] using hi
  have hj2 : j < L.length := by simpa [univ] using hj
  obtain ⟨d, rfl⟩ : ∃ d, j = i + d + 1 := ⟨j - i - 1, by omega⟩
  have := ahead_all (chk_each0 h).2 d i hj2
  simpa [univ] using this
end Ve
end Go.Proofs.YtoaobngpdaidoaaGreatDoor


namespace Go.Proofs.YtoaobngpdaidoaaGreatDoor
open Go.RowKit Go.Maps
namespace Ve
theorem isM_same {Q Q' : List Raw} (h : Q.map (fun r => r.1) = Q'.map (fun r => r.1)) (m : Bm) : idxOf (isM m) Q = idxOf (isM m) Q' := by
  have hl : Q.length = Q'.length := by have := congrArg List.length h; simpa using this
  have hf : idxE (isM m) Q = idxE (isM m) Q' := funext fun i => by
    have hi := congrArg (fun X : List Bm => X[i]?) h
    simp only [List.getElem?_map] at hi
    unfold idxE
    cases h1 : Q[i]? with
    | none =>
      rw [h1] at hi
      cases h2 : Q'[i]? with
      | none => rfl
      | some r => rw [h2] at hi; simp at hi
    | some r =>
      rw [h1] at hi
      cases h2 : Q'[i]? with
      | none => rw [h2] at hi; simp at hi
      | some r' =>
        rw [h2] at hi
        have : r.1 = r'.1 := by simpa using hi
        show (if isM m r then 1 else 0) = if isM m r' then 1 else 0
        rw [show isM m r = isM m r' by unfold isM; rw [this]]
  unfold idxOf
  rw [hf, hl]
theorem reqQ_same {Q Q' : List Raw} {L : List Ent} (h : Q.map (fun r => r.1) = Q'.map (fun r => r.1)) : reqQ Q L = reqQ Q' L := funext fun m => by
  unfold reqQ
  rw [isM_same h m]
theorem nonE_same {Q Q' : List Raw} (h : Q.map (fun r => r.1) = Q'.map (fun r => r.1)) (R : List Bm) : nonE Q R = nonE Q' R := funext fun i => by
  unfold nonE nonW
  split
  · rfl
  · rw [isM_same h]
theorem chk_same {Q Q' : List Raw} {L : List Ent} (h : Q.map (fun r => r.1) = Q'.map (fun r => r.1)) : chk Q L = chk Q' L := by
  have hr : reqE2 Q L = reqE2 Q' L := funext fun i => by
    unfold reqE2
    split
    · rfl
    · rw [nonE_same h]
  unfold chk
  rw [hr]
theorem chkG_same {Q Q' : List Raw} {L : List Ent} (h : Q.map (fun r => r.1) = Q'.map (fun r => r.1)) (roots : List Bm) : chkG Q L roots = chkG Q' L roots := by
  unfold chkG
  rw [chk_same h, nonE_same h]
theorem ms_nil0 (w : World) : MsAt w (.slice none 0 0) [] := ⟨none, 0, rfl, Nat.le_refl _, fun h => absurd rfl h⟩
def rF (Q : List Raw) (L : List Ent) (roots : List Bm) : Nat × Option Nat := if (chkG Q L roots).1 = 0 then (0, none) else chkG Q L roots
theorem rF_good {Q : List Raw} {L : List Ent} {roots : List Bm} (h : (chkG Q L roots).1 = 0) : rF Q L roots = (0, none) := if_pos h
theorem rF_bad {Q : List Raw} {L : List Ent} {roots : List Bm} (h : ¬ (chkG Q L roots).1 = 0) : rF Q L roots = chkG Q L roots := if_neg h
open Classical in
noncomputable def rX (Q : List Raw) (L : List Ent) (roots : List Bm) : List Bm := if (chkG Q L roots).1 = 0 then (univ L).filter (fun m => decide (Rch (reqQ Q L) roots m)) else []
theorem rX_same {Q Q' : List Raw} {L : List Ent} (h : Q.map (fun r => r.1) = Q'.map (fun r => r.1)) (roots : List Bm) : rX Q L roots = rX Q' L roots := by unfold rX; rw [chkG_same h, reqQ_same h]
theorem rX_bad {Q : List Raw} {L : List Ent} {roots : List Bm} (h : ¬ (chkG Q L roots).1 = 0) : rX Q L roots = [] := if_neg h
theorem rX_go {w : World} {v : Value} {Q : List Raw} {L : List Ent} {roots : List Bm} {T : By} (I : Ixs w v Q L) (h : (chkG Q L roots).1 = 0) (hT : Came (reqQ Q L) (univ L) roots T) : goM T Q = rX Q L roots := by
  unfold rX
  rw [if_pos h, ← univ_eq I]
  unfold goM goQ
  rw [List.filter_map]
  congr 1
  apply List.filter_congr
  intro r _
  show cameB T r.1 = _
  simp only [Function.comp]
  by_cases hr : Rch (reqQ Q L) roots r.1
  · rw [(hT.cameB _).2 hr]; simp [hr]
  · cases hc : cameB T r.1
    · simp [hr]
    · exact absurd ((hT.cameB _).1 hc) hr
theorem rX_len {Q : List Raw} {L : List Ent} {roots : List Bm} : (rX Q L roots).length ≤ L.length := by
  unfold rX
  split
  · refine Nat.le_trans (List.length_filter_le _ _) ?_
    rw [univ_len]; exact Nat.le_refl _
  · simp
theorem rX_in {Q : List Raw} {L : List Ent} {roots : List Bm} {m : Bm} (h : m ∈ rX Q L roots) : (chkG Q L roots).1 = 0 ∧ m ∈ univ L := by
  unfold rX at h
  by_cases hc : (chkG Q L roots).1 = 0
  · rw [if_pos hc] at h
    exact ⟨hc, (List.mem_filter.1 h).1⟩
  · rw [if_neg hc] at h; simp at h
end Ve
end Go.Proofs.YtoaobngpdaidoaaGreatDoor


namespace Go.Proofs.YtoaobngpdaidoaaGreatDoor
open Go.RowKit
namespace Ve
abbrev vb (m : Bm) : List UInt8 := m.2.data.toList
theorem ahead_same {a b : Bm} (h : a.1 = b.1) : mAhead a b = lessB (vb a) (vb b) := by
  unfold mAhead aheadB
  rw [if_pos (by rw [h])]
theorem ahead_other {a b : Bm} (h : a.1 ≠ b.1) : mAhead a b = lt a.1 b.1 := by
  unfold mAhead aheadB
  rw [if_neg (fun e => h (str_ext e))]
  rfl
theorem less_right {s t : List UInt8} (hs : verErr s = 0) (ht : verErr t = 0) : lessB s t = decide (ordV s t < 0) := by
  unfold lessB
  simp [hs, ht]
def nfC (a b : Bm) : Int := if a.1 = b.1 then (if mAhead b a then -1 else if mAhead a b then 1 else 0) else Lib.compareBytes a.1.data.toList b.1.data.toList
structure Rt (m : Bm) : Prop where
  ok : mErr m = 0
  p : m.1.size < 999999
  v : m.2.size < 999999
theorem Rt.ver {m : Bm} (h : Rt m) : verErr (vb m) = 0 := (mErr_zero h.ok).2
theorem nf_lt {a b : Bm} (ha : Rt a) (hb : Rt b) : nfC a b < 0 ↔ (lt a.1 b.1 = true ∨ (a.1 = b.1 ∧ ordV (vb b) (vb a) < 0)) := by
  unfold nfC
  by_cases h : a.1 = b.1
  · rw [if_pos h, ahead_same h.symm, ahead_same h, less_right hb.ver ha.ver, less_right ha.ver hb.ver]
    have hl : ¬ lt a.1 b.1 = true := by rw [h, lt_irrefl]; simp
    by_cases h1 : ordV (vb b) (vb a) < 0
    · simp [h1, h]
    · by_cases h2 : ordV (vb a) (vb b) < 0
      · simp [h1, h2, hl]
      · simp [h1, h2, hl]
  · rw [if_neg h]
    unfold lt
    simp [h]
theorem ordV_le_trans {s t u : List UInt8} (hs : verErr s = 0) (ht : verErr t = 0) (hu : verErr u = 0) (h1 : ordV s t ≤ 0) (h2 : ordV t u ≤ 0) : ordV s u ≤ 0 := by
  rcases Int.lt_or_eq_of_le h1 with a | a
  · rcases Int.lt_or_eq_of_le h2 with b | b
    · exact Int.le_of_lt (ordV_trans a b)
    · rw [← (ordV_zero ht hu).1 b]; exact h1
  · rw [(ordV_zero hs ht).1 a]; exact h2
theorem ordV_total {s t : List UInt8} (h : ¬ ordV s t < 0) : ordV t s ≤ 0 := by rw [ordV_swap s t]; omega
def nfW (a b : Bm) : Prop := lt a.1 b.1 = true ∨ (a.1 = b.1 ∧ ordV (vb b) (vb a) ≤ 0)
theorem nf_not {a b : Bm} (ha : Rt a) (hb : Rt b) (h : ¬ nfC b a < 0) : nfW a b := by
  rw [nf_lt hb ha] at h
  rcases lt_three a.1 b.1 with h1 | h1 | h1
  · exact Or.inl h1
  · refine Or.inr ⟨h1, ordV_total fun h2 => h (Or.inr ⟨h1.symm, h2⟩)⟩
  · exact absurd (Or.inl h1) h
theorem nf_irr {a : Bm} (ha : Rt a) : ¬ nfC a a < 0 := by
  rw [nf_lt ha ha]
  rintro (h | ⟨_, h⟩)
  · rw [lt_irrefl] at h; cases h
  · rw [(ordV_zero ha.ver ha.ver).2 rfl] at h; omega
theorem nf_trans {a b c : Bm} (ha : Rt a) (hb : Rt b) (hc : Rt c) (h1 : nfC a b < 0) (h2 : nfC b c < 0) : nfC a c < 0 := by
  rw [nf_lt ha hb] at h1
  rw [nf_lt hb hc] at h2
  rw [nf_lt ha hc]
  rcases h1 with h1 | ⟨e1, h1⟩
  · rcases h2 with h2 | ⟨e2, h2⟩
    · exact Or.inl (lt_trans h1 h2)
    · rw [← e2]; exact Or.inl h1
  · rcases h2 with h2 | ⟨e2, h2⟩
    · rw [e1]; exact Or.inl h2
    · exact Or.inr ⟨e1.trans e2, ordV_trans h2 h1⟩
theorem nfW_trans {a b c : Bm} (ha : Rt a) (hb : Rt b) (hc : Rt c) (h1 : nfW a b) (h2 : nfW b c) : nfW a c := by
  rcases h1 with h1 | ⟨e1, h1⟩
  · rcases h2 with h2 | ⟨e2, h2⟩
    · exact Or.inl (lt_trans h1 h2)
    · rw [nfW, ← e2]; exact Or.inl h1
  · rcases h2 with h2 | ⟨e2, h2⟩
    · rw [nfW, e1]; exact Or.inl h2
    · exact Or.inr ⟨e1.trans e2, ordV_le_trans hc.ver hb.ver ha.ver h2 h1⟩
theorem nfW_not {a b : Bm} (ha : Rt a) (hb : Rt b) (h : nfW a b) : ¬ nfC b a < 0 := by
  rw [nf_lt hb ha]
  rintro (h2 | ⟨e, h2⟩)
  · rcases h with h | ⟨e, _⟩
    · rw [lt_asymm h] at h2; cases h2
    · rw [e, lt_irrefl] at h2; cases h2
  · rcases h with h | ⟨_, h⟩
    · rw [e, lt_irrefl] at h; cases h
    · rw [ordV_swap (vb b) (vb a)] at h2; omega
structure Jn (D E : List Bm) : Prop where
  ri : rising E
  sub : ∀ e, e ∈ E → e ∈ D ∧ mErr e = 0
  top : ∀ x, x ∈ D → mErr x = 0 → ∃ e, e ∈ E ∧ e.1 = x.1 ∧ ordV (vb x) (vb e) ≤ 0
theorem rising_same {E : List Bm} (h : rising E) {a b : Bm} (ha : a ∈ E) (hb : b ∈ E) (e : a.1 = b.1) : a = b := by
  obtain ⟨i, hi, rfl⟩ := List.getElem_of_mem ha
  obtain ⟨j, hj, rfl⟩ := List.getElem_of_mem hb
  have hp := List.pairwise_iff_getElem.1 h
  rcases Nat.lt_trichotomy i j with h1 | h1 | h1
  · have := hp i j hi hj h1
    rw [e, lt_irrefl] at this; cases this
  · subst h1; rfl
  · have := hp j i hj hi h1
    rw [e, lt_irrefl] at this; cases this
theorem rising_ext : ∀ {E F : List Bm}, rising E → rising F → (∀ m, m ∈ E ↔ m ∈ F) → E = F
  | [], [], _, _, _ => rfl
  | [], f :: F, _, _, h => by have := (h f).2 (by simp); cases this
  | e :: E, [], _, _, h => by have := (h e).1 (by simp); cases this
  | e :: E, f :: F, hE, hF, h => by
    obtain ⟨hE1, hE2⟩ := List.pairwise_cons.1 hE
    obtain ⟨hF1, hF2⟩ := List.pairwise_cons.1 hF
    have hef : e = f := by
      rcases List.mem_cons.1 ((h e).1 (by simp)) with a | a
      · exact a
      · rcases List.mem_cons.1 ((h f).2 (by simp)) with b | b
        · exact b.symm
        · have h1 := hF1 e a
          have h2 := hE1 f b
          rw [lt_asymm h1] at h2; cases h2
    subst hef
    have : E = F := rising_ext hE2 hF2 fun m => by
      constructor
      · intro hm
        rcases List.mem_cons.1 ((h m).1 (List.mem_cons_of_mem _ hm)) with a | a
        · subst a; have := hE1 m hm; rw [lt_irrefl] at this; cases this
        · exact a
      · intro hm
        rcases List.mem_cons.1 ((h m).2 (List.mem_cons_of_mem _ hm)) with a | a
        · subst a; have := hF1 m hm; rw [lt_irrefl] at this; cases this
        · exact a
    rw [this]
theorem ver_same {a b : Bm} (ha : mErr a = 0) (hb : mErr b = 0) (e : a.1 = b.1) (h1 : ordV (vb a) (vb b) ≤ 0) (h2 : ordV (vb b) (vb a) ≤ 0) : a = b := by
  have h0 : ordV (vb a) (vb b) = 0 := by rw [ordV_swap (vb a) (vb b)] at h2; omega
  have := (ordV_zero (mErr_zero ha).2 (mErr_zero hb).2).1 h0
  exact Prod.ext e (str_ext this)
theorem Jn.one {D D' E F : List Bm} (hE : Jn D E) (hF : Jn D' F) (h : ∀ m, mErr m = 0 → (m ∈ D ↔ m ∈ D')) : E = F := by
  refine rising_ext hE.ri hF.ri fun m => ?_
  have go : ∀ {D D' E F : List Bm}, Jn D E → Jn D' F → (∀ m, mErr m = 0 → (m ∈ D ↔ m ∈ D')) → ∀ m, m ∈ E → m ∈ F := by
    intro D D' E F hE hF h m hm
    obtain ⟨h1, h2⟩ := hE.sub m hm
    obtain ⟨f, hf, e1, h3⟩ := hF.top m ((h m h2).1 h1) h2
    obtain ⟨h4, h5⟩ := hF.sub f hf
    obtain ⟨g, hg, e2, h6⟩ := hE.top f ((h f h5).2 h4) h5
    have hgm : g = m := rising_same hE.ri hg hm (e2.trans e1)
    subst hgm
    rw [ver_same h2 h5 e1.symm h3 h6]; exact hf
  exact ⟨go hE hF h m, go hF hE (fun m hm => (h m hm).symm) m⟩
def atP (B : List Bm) (p : ByteArray) : Option Bm := B.find? fun x => decide (x.1 = p)
def hasV (B : List Bm) (m : Bm) : Bool := match atP B m.1 with
  | none => false
  | some x => !lessB (vb x) (vb m)
def undB (A B : List Bm) : Bool := A.all (hasV B)
theorem atP_rising {E : List Bm} (h : rising E) {e : Bm} (he : e ∈ E) : atP E e.1 = some e := by
  unfold atP
  cases hf : E.find? fun x => decide (x.1 = e.1) with
  | none =>
    have := List.find?_eq_none.1 hf e he
    simp at this
  | some x =>
    have h1 := List.find?_some hf
    have h2 := List.mem_of_find?_eq_some hf
    have h3 : x.1 = e.1 := by simpa using h1
    rw [rising_same h h2 he h3]
theorem hasV_rising {E : List Bm} (h : rising E) {e m : Bm} (he : e ∈ E) (hp : e.1 = m.1) : hasV E m = !lessB (vb e) (vb m) := by
  unfold hasV
  rw [← hp, atP_rising h he]
theorem hasV_of {E : List Bm} (h : rising E) {e m : Bm} (he : e ∈ E) (hp : e.1 = m.1) (ho : ordV (vb m) (vb e) ≤ 0) : hasV E m = true := by
  rw [hasV_rising h he hp]
  unfold lessB
  have : ¬ ordV (vb e) (vb m) < 0 := by rw [ordV_swap (vb m) (vb e)]; omega
  simp [this]
theorem Jn.over {D E A : List Bm} (h : Jn D E) (hA : ∀ m, m ∈ A → m ∈ D ∧ mErr m = 0) : undB A E = true := by
  unfold undB
  rw [List.all_eq_true]
  intro m hm
  obtain ⟨h1, h2⟩ := hA m hm
  obtain ⟨e, he, e1, e2⟩ := h.top m h1 h2
  exact hasV_of h.ri he e1 e2
end Ve
end Go.Proofs.YtoaobngpdaidoaaGreatDoor


namespace Go.Proofs.YtoaobngpdaidoaaGreatDoor
open Go.RowKit
namespace Ve
def idxB (P : Bm → Bool) (L : List Bm) : Int := if L.any P then (L.findIdx P : Int) else -1
theorem idxB_hit {P : Bm → Bool} {L : List Bm} {k : Nat} (hk : k < L.length) (h0 : ∀ j (hj : j < L.length), j < k → P L[j] = false) (h : P L[k] = true) : idxB P L = (k : Int) := by
  unfold idxB
  rw [if_pos (List.any_eq_true.2 ⟨L[k], List.getElem_mem hk, h⟩), (List.findIdx_eq hk).2 ⟨h, fun j hj => h0 j (by omega) hj⟩]
theorem idxB_not {P : Bm → Bool} {L : List Bm} (h0 : ∀ j (hj : j < L.length), P L[j] = false) : idxB P L = -1 := by
  unfold idxB
  rw [if_neg]
  intro h
  obtain ⟨x, hx, h1⟩ := List.any_eq_true.1 h
  obtain ⟨j, hj, rfl⟩ := List.getElem_of_mem hx
  rw [h0 j hj] at h1; cases h1
theorem idxB_next {P : Bm → Bool} {L : List Bm} {k : Nat} (hk : k < L.length) (h0 : ∀ j (hj : j < L.length), j < k → P L[j] = false) (h : P L[k] = false) : ∀ j (hj : j < L.length), j < k + 1 → P L[j] = false := fun j hj hjk => by
  rcases Nat.lt_or_ge j k with h1 | h1
  · exact h0 j hj h1
  · have : j = k := by omega
    subst this; exact h
theorem idxB_kind (P : Bm → Bool) (L : List Bm) : (idxB P L = -1 ∧ ∀ x, x ∈ L → P x = false) ∨ ∃ k, ∃ hk : k < L.length, idxB P L = (k : Int) ∧ P L[k] = true ∧ ∀ j (hj : j < L.length), j < k → P L[j] = false := by
  by_cases h : L.any P
  · refine Or.inr ⟨L.findIdx P, List.findIdx_lt_length.2 (List.any_eq_true.1 h), by unfold idxB; rw [if_pos h], List.findIdx_getElem, fun j hj hjk => ?_⟩
    have := List.not_of_lt_findIdx hjk
    simpa using this
  · refine Or.inl ⟨by unfold idxB; rw [if_neg h], fun x hx => ?_⟩
    cases hp : P x
    · rfl
    · exact absurd (List.any_eq_true.2 ⟨x, hx, hp⟩) h
set_option maxHeartbeats 2000000 in
set_option maxRecDepth 100000 in
theorem idxM_some (K : Nat) (cb : Array Value) (P : Bm → Bool) (L : List Bm) (b o c : Nat) (w : World) (eg : ∀ args w, (callFunc K args).run Tryz.prog w = .ok (.enter K args) w) (hL : L.length ≤ 1000000)
    (hc : ∀ j (h : j < L.length), w.cell? ⟨b, o + j * 2, none⟩ = some (.string L[j].1) ∧ w.cell? ⟨b, o + j * 2 + 1, none⟩ = some (.string L[j].2))
    (hK : ∀ i (h : i < L.length) W, Below w.heap.size w W → Calls Tryz.prog K (#[.agg #[.string L[i].1, .string L[i].2]] ++ cb) W fun e w' => e = .returned (.bool (P L[i])) ∧ Below W.heap.size W w') :
    Calls Tryz.prog 46 #[.slice (some ⟨b, o, none⟩) L.length c, .func (.func K) #[] cb] w fun e w' => e = .returned (.int .i64 (idxB P L)) ∧ Below w.heap.size w w' := by
  have HK := hid hK
  have HC := hid hc
  generalize hr : idxB P L = r
  have HR := hid hr
  clear hK hc hr
  go_enter Tryz.func46, Tryz.ntmps46
  go_wp2_with fail
  go_loopw [8] (fun i wr => ∃ k : Nat, k ≤ L.length ∧ i = .int .i64 k ∧ Hid (∀ j (h : j < L.length), j < k → P L[j] = false) ∧ Hid (Below w.heap.size w wr)) (fun i _ => L.length - (intOf i).toNat)
  case atStart => exact ⟨0, Nat.zero_le _, rfl, hid (fun j _ hj => absurd hj (by omega)), hid (Below.refl _ _)⟩
  case round =>
    obtain ⟨k, hk, rfl, HA, HB⟩ := hrel
    by_cases hlt : k < L.length
    · have HP := hid (HK.out k hlt wr HB.out)
      have x0 := cell_below HB.out (HC.out k hlt).1
      have x1 := cell_below HB.out (HC.out k hlt).2
      have hkI : (k : Int) < (L.length : Int) := by omega
      have HLT := hid hlt
      have HF := hid (fun h => idxB_hit hlt HA.out h)
      have HN := hid (fun h => idxB_next hlt HA.out h)
      generalize hx : L[k] = x at *
      cases hp : P x
      · rw [hp] at HP
        have HN2 := hid (HN.out hp)
        clear hp hx hlt
        go_wp2_with fail
        refine HP.out.mono ?_
        rintro e w1 ⟨rfl, hb⟩
        have HB1 := hid (HB.out.trans (hb.mono HB.out.size))
        clear hb
        go_wp2_with fail
        go_roundw
        case rel => exact ⟨k + 1, by have := HLT.out; omega, by go_num, HN2, HB1⟩
        case measure => have := HLT.out; simp [intOf]; omega
      · rw [hp] at HP
        have HF2 := hid (HF.out hp)
        clear hp hx hlt
        go_wp2_with fail
        refine HP.out.mono ?_
        rintro e w1 ⟨rfl, hb⟩
        have HB1 := hid (HB.out.trans (hb.mono HB.out.size))
        clear hb
        go_wp2_with fail
        go_ret
        exact ⟨by rw [← HR.out, HF2.out]; rfl, HB1.out⟩
    · have HF := hid (idxB_not (P := P) (L := L) (fun j hj => HA.out j hj (by omega)))
      go_wp2_with fail
      go_ret
      exact ⟨by rw [← HR.out, HF.out]; rfl, HB.out⟩
theorem idxM_none (K : Nat) (cb : Array Value) (a : Option Addr) (c : Nat) (w : World) :
    Calls Tryz.prog 46 #[.slice a 0 c, .func (.func K) #[] cb] w fun e w' => e = .returned (.int .i64 (-1)) ∧ Below w.heap.size w w' := by
  go_enter Tryz.func46, Tryz.ntmps46
  go_wp2_with fail
  go_loopw [8] (fun i wr => i = .int .i64 0 ∧ wr = w) (fun i _ => 0)
  case atStart => exact ⟨rfl, rfl⟩
  case round =>
    obtain ⟨rfl, rfl⟩ := hrel
    go_wp2_with fail
    go_ret
    exact ⟨rfl, Below.refl _ _⟩
theorem idxM_any (K : Nat) (cb : Array Value) (P : Bm → Bool) (L : List Bm) (v : Value) (w : World) (eg : ∀ args w, (callFunc K args).run Tryz.prog w = .ok (.enter K args) w) (hL : L.length ≤ 1000000) (hv : MsAt w v L)
    (hK : ∀ i (h : i < L.length) W, Below w.heap.size w W → Calls Tryz.prog K (#[.agg #[.string L[i].1, .string L[i].2]] ++ cb) W fun e w' => e = .returned (.bool (P L[i])) ∧ Below W.heap.size W w') :
    Calls Tryz.prog 46 #[v, .func (.func K) #[] cb] w fun e w' => e = .returned (.int .i64 (idxB P L)) ∧ Below w.heap.size w w' := by
  obtain ⟨a, c, rfl, _, h⟩ := hv
  cases L with
  | nil => exact idxM_none K cb a c w
  | cons x r =>
    obtain ⟨b, o, rfl, h2⟩ := h (by simp)
    exact idxM_some K cb P (x :: r) b o c w eg hL h2 hK
end Ve
end Go.Proofs.YtoaobngpdaidoaaGreatDoor


namespace Go.Proofs.YtoaobngpdaidoaaGreatDoor
open Go.RowKit
namespace Ve
structure Mw (w0 W : World) (g : Nat) (D : List Bm) : Prop where
  bl : Below w0.heap.size w0 W
  lo : w0.heap.size ≤ g
  hi : g < W.heap.size
  fz : ∀ o, W.frozen? ⟨g, o, none⟩ = false
  c0 : ∀ j (h : j < D.length), W.cell? ⟨g, j * 2, none⟩ = some (.string D[j].1)
  c1 : ∀ j (h : j < D.length), W.cell? ⟨g, j * 2 + 1, none⟩ = some (.string D[j].2)
def mcells (m : Bm) : List Value := [.string m.1, .string m.2]
theorem Mw.below {w0 W W' : World} {g : Nat} {D : List Bm} (h : Mw w0 W g D) (hb : Below W.heap.size W W') : Mw w0 W' g D :=
  ⟨h.bl.trans (hb.mono h.bl.size), h.lo, Nat.lt_of_lt_of_le h.hi hb.size, fun o => by rw [hb.frozen h.hi]; exact h.fz o, fun j hj => cell_below hb (h.c0 j hj), fun j hj => cell_below hb (h.c1 j hj)⟩
theorem Mw.at {w0 W : World} {g : Nat} {D : List Bm} (h : Mw w0 W g D) {j : Nat} {r : Bm} (hj : D[j]? = some r) :
    W.cell? ⟨g, j * 2, none⟩ = some (.string r.1) ∧ W.cell? ⟨g, j * 2 + 1, none⟩ = some (.string r.2) := by
  obtain ⟨hl, rfl⟩ := List.getElem?_eq_some_iff.1 hj
  exact ⟨h.c0 j hl, h.c1 j hl⟩
theorem Mw.cell {w0 W : World} {g : Nat} {D : List Bm} (h : Mw w0 W g D) (j : Nat) (hj : j < D.length) (c : Nat) (hc : c < 2) : W.cell? ⟨g, j * 2 + c, none⟩ = (mcells D[j])[c]? := by
  match c, hc with
  | 0, _ => exact h.c0 j hj
  | 1, _ => exact h.c1 j hj
theorem Mw.of_cells {w0 W : World} {g : Nat} {D : List Bm} (h1 : Below w0.heap.size w0 W) (h2 : w0.heap.size ≤ g) (h3 : g < W.heap.size) (h4 : ∀ o, W.frozen? ⟨g, o, none⟩ = false)
    (h : ∀ j (hj : j < D.length) c (_ : c < 2), W.cell? ⟨g, j * 2 + c, none⟩ = (mcells D[j])[c]?) : Mw w0 W g D :=
  ⟨h1, h2, h3, h4, fun j hj => h j hj 0 (by omega), fun j hj => h j hj 1 (by omega)⟩
theorem Mw.ms {w0 W : World} {g : Nat} {D : List Bm} (h : Mw w0 W g D) {cap : Nat} (hc : D.length ≤ cap) : MsAt W (.slice (some ⟨g, 0, none⟩) D.length cap) D :=
  ⟨_, cap, rfl, hc, fun _ => ⟨g, 0, rfl, fun j hj => ⟨by rw [Nat.zero_add]; exact h.c0 j hj, by rw [Nat.zero_add]; exact h.c1 j hj⟩⟩⟩
theorem setCells_belowM {w0 W : World} {g : Nat} (h : Below w0.heap.size w0 W) (hg : w0.heap.size ≤ g) : ∀ (vs : List Value) (o : Nat), Below w0.heap.size w0 (W.setCells g o vs) := by
  intro vs
  induction vs generalizing W with
  | nil => intro o; exact h
  | cons v r ih => intro o; exact ih (h.setCell hg v) (o + 1)
theorem Mw.setAt {w0 W : World} {g : Nat} {D : List Bm} (h : Mw w0 W g D) (i : Nat) (hi : i < D.length) (r : Bm) : Mw w0 (W.setCells g (i * 2) (mcells r)) g (D.set i r) := by
  refine Mw.of_cells (setCells_belowM h.bl h.lo _ _) h.lo (by rw [Go.Sort.size_setCells]; exact h.hi) (fun o => by rw [World.frozen?_setCells]; exact h.fz o) (fun j hj c hc => ?_)
  have hj' : j < D.length := by simpa using hj
  by_cases e : j = i
  · subst e
    have := World.cell?_setCells_in g (mcells r) (j * 2) W (fun t ht => by
      have h9 : t < 2 := ht
      rw [h.cell j hj' t h9]
      match t, h9 with
      | 0, _ => rfl
      | 1, _ => rfl) c hc
    rw [this]
    simp
    exact (List.getElem?_eq_getElem (show c < (mcells r).length from hc)).symm
  · rw [World.cell?_setCells_out g (mcells r) (i * 2) W _ (fun _ _ => by
      show j * 2 + c < i * 2 ∨ i * 2 + 2 ≤ j * 2 + c
      omega), h.cell j hj' c hc]
    rw [List.getElem_set_ne (by omega)]
theorem Mw.cleared {w0 W : World} {g : Nat} {D : List Bm} (h : Mw w0 W g D) (n : Nat) (hn : n ≤ D.length) (zs : List Value) : Mw w0 (W.setCells g (n * 2) zs) g (D.take n) := by
  refine Mw.of_cells (setCells_belowM h.bl h.lo _ _) h.lo (by rw [Go.Sort.size_setCells]; exact h.hi) (fun o => by rw [World.frozen?_setCells]; exact h.fz o) (fun j hj c hc => ?_)
  have hj' : j < n := by simp at hj; omega
  rw [World.cell?_setCells_out g zs (n * 2) W _ (fun _ _ => Or.inl (by show j * 2 + c < n * 2; omega)), h.cell j (by omega) c hc, List.getElem_take]
theorem run_clear_mw {w0 W : World} {g : Nat} {D : List Bm} (h : Mw w0 W g D) (n : Nat) (hn : n < D.length) :
    ∃ zs, ∀ ty c, (Builtin.clear_ #[23] ty #[.slice (some ⟨g, n * 2, none⟩) (D.length - n) c]).run Tryz.prog W = .ok (.tuple #[]) (W.setCells g (n * 2) zs) := by
  have hzl : (Builtin.zeroCells (Value.agg #[.string ⟨#[]⟩, .string ⟨#[]⟩]).cells (D.length - n)).toList.length = (D.length - n) * 2 := by
    simp [Builtin.zeroCells, Value.cells]
  refine ⟨(Builtin.zeroCells (Value.agg #[.string ⟨#[]⟩, .string ⟨#[]⟩]).cells (D.length - n)).toList, fun ty c => ?_⟩
  have hst := run_storeCells_cells (P := Tryz.prog) g (n * 2) (Builtin.zeroCells (Value.agg #[.string ⟨#[]⟩, .string ⟨#[]⟩]).cells (D.length - n)).toList 0 W (fun j hj => by
    rw [hzl] at hj
    have e : n * 2 + 0 + j = (n + j / 2) * 2 + j % 2 := by omega
    rw [e, h.cell (n + j / 2) (by omega) (j % 2) (by omega)]
    have h9 : j % 2 < 2 := by omega
    match j % 2, h9 with
    | 0, _ => rfl
    | 1, _ => rfl) (fun j _ => h.fz _) (fun v hv => by
    simp only [Builtin.zeroCells, Value.cells] at hv
    simp at hv
    obtain ⟨t, _, rfl⟩ := hv
    have h9 : t % 2 < 2 := by omega
    match t % 2, h9 with
    | 0, _ => rfl
    | 1, _ => rfl)
  simp only [Nat.add_zero] at hst
  obtain ⟨m, hm⟩ : ∃ m, D.length - n = m + 1 := ⟨D.length - n - 1, by omega⟩
  rw [hm] at hst ⊢
  have hu := Tryz.underlying23
  have hv : ∀ w, (zeroValue 46).run Tryz.prog w = .ok (.agg #[.string ⟨#[]⟩, .string ⟨#[]⟩]) w := fun w => Tryz.zeroValue46 w
  simp [Builtin.clear_, run_underlying hu, hv, hst]
theorem own_mw {w0 W : World} {v : Value} {L : List Bm} (h : W.ownsRow w0.heap.size 46 2 v L.length (flatM L)) (hb : Below w0.heap.size w0 W) (hL : L ≠ []) : ∃ g cap, v = .slice (some ⟨g, 0, none⟩) L.length cap ∧ L.length ≤ cap ∧ cap ≤ maxLen ∧ Mw w0 W g L := by
  obtain ⟨_, ⟨_, hn0⟩ | ⟨g, cap, cur, hv, hg, hblk, hcap, hcm, hcs, hct⟩⟩ := h
  · exact absurd (List.length_eq_zero_iff.1 hn0) hL
  · refine ⟨g, cap, hv, hcap, hcm, Mw.of_cells hb hg (lt_of_blk hblk) (fun o => by simp [World.frozen?, hblk]) (fun j hj c hc => ?_)⟩
    have h1 := flatM_get L j c hj hc
    rw [← hct, List.getElem?_take, if_pos (by omega)] at h1
    simp only [World.cell?, hblk]
    unfold mcells
    rw [← h1]; simp
def srtM (D : List Bm) : Prop := D.Pairwise nfW
structure CpM (D : List Bm) (m : Nat) (E : List Bm) : Prop where
  ri : rising E
  sub : ∀ e, e ∈ E → e ∈ D.take m
  top : ∀ x, x ∈ D.take m → ∃ e, e ∈ E ∧ e.1 = x.1 ∧ ordV (vb x) (vb e) ≤ 0
  len : E.length ≤ m
theorem mem_take_at {D : List Bm} {m : Nat} {x : Bm} (h : x ∈ D.take m) : ∃ i, ∃ hi : i < D.length, i < m ∧ D[i] = x := by
  obtain ⟨i, hi, e⟩ := List.mem_iff_getElem.1 h
  rw [List.getElem_take] at e
  simp at hi
  exact ⟨i, by omega, by omega, e⟩
theorem take_snocM {D : List Bm} {m : Nat} (hm : m < D.length) {x : Bm} : x ∈ D.take (m + 1) ↔ x ∈ D.take m ∨ x = D[m] := by
  rw [List.take_succ_eq_append_getElem hm, List.mem_append, List.mem_singleton]
theorem CpM.start {D : List Bm} (hD : 0 < D.length) (hr : ∀ r, r ∈ D → Rt r) : CpM D 1 (D.take 1) := by
  match D, hD with
  | r :: R, _ => exact ⟨List.pairwise_singleton _ _, fun t h => h, fun x hx => ⟨x, hx, rfl, by
      have : x = r := by simpa using hx
      subst this
      rw [(ordV_zero (hr x (by simp)).ver (hr x (by simp)).ver).2 rfl]; omega⟩, by simp⟩
theorem CpM.same {D E : List Bm} {m : Nat} (h : CpM D (m + 1) E) (hs : srtM D) (_hr : ∀ r, r ∈ D → Rt r) (hm : m + 1 < D.length) (he : D[m + 1].1 = (D[m]'(by omega)).1) : CpM D (m + 1 + 1) E := by
  have hp := List.pairwise_iff_getElem.1 hs
  refine ⟨h.ri, fun e he => (take_snocM hm).2 (Or.inl (h.sub e he)), fun x hx => ?_, by have := h.len; omega⟩
  rcases (take_snocM hm).1 hx with hx | rfl
  · exact h.top x hx
  · obtain ⟨e, h1, h2, _⟩ := h.top (D[m]'(by omega)) ((take_snocM (by omega)).2 (Or.inr rfl))
    obtain ⟨i, hi, him, rfl⟩ := mem_take_at (h.sub e h1)
    refine ⟨D[i], h1, h2.trans he.symm, ?_⟩
    rcases hp i (m + 1) hi hm him with h3 | ⟨_, h3⟩
    · rw [h2, ← he, lt_irrefl] at h3; cases h3
    · exact h3
theorem srt_strictM {D : List Bm} (hs : srtM D) {i k : Nat} (hik : i ≤ k) (hk : k + 1 < D.length) (hne : D[k + 1].1 ≠ (D[k]'(by omega)).1) : lt (D[i]'(by omega)).1 D[k + 1].1 = true := by
  have hp := List.pairwise_iff_getElem.1 hs
  have h2 : lt (D[k]'(by omega)).1 D[k + 1].1 = true := by
    rcases hp k (k + 1) (by omega) hk (by omega) with h | ⟨e, _⟩
    · exact h
    · exact absurd e.symm hne
  rcases Nat.lt_or_ge i k with h | h
  · rcases hp i k (by omega) (by omega) h with h1 | ⟨e, _⟩
    · exact lt_trans h1 h2
    · rw [e]; exact h2
  · have : i = k := by omega
    subst this; exact h2
theorem CpM.more {D E : List Bm} {m : Nat} (h : CpM D (m + 1) E) (hs : srtM D) (hr : ∀ r, r ∈ D → Rt r) (hm : m + 1 < D.length) (he : D[m + 1].1 ≠ (D[m]'(by omega)).1) : CpM D (m + 1 + 1) (E ++ [D[m + 1]]) := by
  refine ⟨?_, fun e h1 => ?_, fun x hx => ?_, by have := h.len; simp; omega⟩
  · unfold rising
    rw [List.pairwise_append]
    refine ⟨h.ri, List.pairwise_singleton _ _, fun a ha b hb => ?_⟩
    rw [List.mem_singleton.1 hb]
    obtain ⟨i, hi, him, rfl⟩ := mem_take_at (h.sub a ha)
    exact srt_strictM hs (by omega) hm he
  · rcases List.mem_append.1 h1 with h1 | h1
    · exact (take_snocM hm).2 (Or.inl (h.sub e h1))
    · exact (take_snocM hm).2 (Or.inr (List.mem_singleton.1 h1))
  · rcases (take_snocM hm).1 hx with hx | rfl
    · obtain ⟨e, h1, h2⟩ := h.top x hx
      exact ⟨e, List.mem_append_left _ h1, h2⟩
    · have hv := (hr D[m + 1] (List.getElem_mem hm)).ver
      exact ⟨D[m + 1], by simp, rfl, by rw [(ordV_zero hv hv).2 rfl]; omega⟩
theorem CpM.plain {D : List Bm} {m : Nat} (h : CpM D (m + 1) (D.take (m + 1))) (hs : srtM D) (hr : ∀ r, r ∈ D → Rt r) (hm : m + 1 < D.length) (he : D[m + 1].1 ≠ (D[m]'(by omega)).1) : CpM D (m + 1 + 1) (D.take (m + 1 + 1)) := by
  have := h.more hs hr hm he
  rw [List.take_succ_eq_append_getElem hm]
  exact this
theorem CpM.jn {D E : List Bm} (h : CpM D D.length E) (hr : ∀ r, r ∈ D → Rt r) : Jn D E := by
  have hs : ∀ e, e ∈ E → e ∈ D := fun e he => by have := h.sub e he; rw [List.take_length] at this; exact this
  exact ⟨h.ri, fun e he => ⟨hs e he, (hr e (hs e he)).ok⟩, fun x hx _ => h.top x (by rw [List.take_length]; exact hx)⟩
end Ve
end Go.Proofs.YtoaobngpdaidoaaGreatDoor


namespace Go.Proofs.YtoaobngpdaidoaaGreatDoor
namespace Mo
def Ge {α : Type} (d : Nat) : Result α → Prop
  | .ok _ w => d ≤ w.drawn
  | .halt _ w => d ≤ w.drawn
theorem Ge.le {α : Type} {d d' : Nat} {r : Result α} (h : Ge d r) (hd : d' ≤ d) : Ge d' r := by
  cases r <;> exact Nat.le_trans hd h
theorem ask_ge {α : Type} : ∀ (a : Ask α) (w : World), w.drawn ≤ (w.ask a).2.drawn := fun a => by
  induction a with
  | done a => intro w; exact Nat.le_refl _
  | ask what range k ih =>
    intro w
    unfold World.ask
    dsimp only
    split
    · exact ih 0 w
    · exact Nat.le_trans (Nat.le_succ _) (ih _ { w with drawn := w.drawn + 1 })
theorem sys_ge (w : World) (c : Sys) : w.drawn ≤ (w.sys c).2.drawn := by
  have h := ask_ge (Kernel.perform c w.os) w
  unfold World.sys
  split
  · exact Nat.le_refl _
  · rename_i h2
    rw [h2] at h
    exact h
theorem view_ge {P : Program} {w : World} {at_ : Addr} {u : TypeId} {k : Addr} {v : Value} {b : Bool} {r : World × List Addr} (h : w.viewStore P at_ u k v b = .ok r) : r.1.drawn = w.drawn := by
  unfold World.viewStore at h
  simp only [bind, Except.bind, pure, Except.pure] at h
  repeat' split at h
  all_goals first
    | (cases h; rfl)
    | cases h
theorem far_ge {P : Program} {w : World} {a : Addr} {v : Value} {b : Bool} {r : World × List Addr} (h : w.farStore P a v b = .ok r) : r.1.drawn = w.drawn := by
  unfold World.farStore at h
  split at h
  · split at h
    · rename_i h2
      cases h
      exact view_ge h2
    · cases h
  · cases h
theorem freeze_ge (w : World) (a : Addr) (n : Nat) : (w.freeze a n).drawn = w.drawn := by
  unfold World.freeze
  split <;> rfl
theorem run_ge {α : Type} (P : Program) (s : Sem α) : ∀ w : World, Ge w.drawn (s.run P w) := by
  induction s with
  | pure a => intro w; exact Nat.le_refl _
  | load m a k ih =>
    intro w
    unfold Sem.run
    split
    · exact ih _ w
    · split
      · exact ih _ w
      · exact Nat.le_refl _
  | store m a v k ih =>
    intro w
    cases v
    case agg => exact Nat.le_refl _
    case tuple => exact Nat.le_refl _
    all_goals
      simp only [Sem.run]
      split
      · split
        · exact Nat.le_refl _
        · exact ih _
      · split
        · rename_i h2
          have := far_ge h2
          rw [← this]
          exact ih _
        · exact Nat.le_refl _
  | new o k ih => intro w; exact ih _ { w with heap := w.heap.push o }
  | shape r k ih => intro w; exact ih _ w
  | freeze a n k ih => intro w; have := ih (w.freeze a n); rw [freeze_ge] at this; exact this
  | frozen a k ih => intro w; exact ih _ w
  | getObj r k ih =>
    intro w
    unfold Sem.run
    split
    · exact Nat.le_refl _
    · exact ih _ w
    · exact Nat.le_refl _
  | setObj r o k ih =>
    intro w
    unfold Sem.run
    split
    · exact Nat.le_refl _
    · exact ih { w with heap := w.heap.setIfInBounds r o }
    · exact Nat.le_refl _
  | choose q k ih =>
    intro w
    unfold Sem.run
    split
    · exact ih _ w
    · exact (ih _ { w with drawn := w.drawn + 1 }).le (Nat.le_succ _)
  | sys c k ih => intro w; exact (ih _ _).le (sys_ge w c)
  | program k ih => intro w; exact ih _ w
  | mark m k ih => intro w; exact ih w
  | halt h => intro w; exact Nat.le_refl _
theorem run_ok {α : Type} {P : Program} {s : Sem α} {w w' : World} {a : α} (h : s.run P w = .ok a w') : w.drawn ≤ w'.drawn := by
  have := run_ge P s w
  rw [h] at this
  exact this
theorem run_ha {α : Type} {P : Program} {s : Sem α} {w w' : World} {a : Halt} (h : s.run P w = .halt a w') : w.drawn ≤ w'.drawn := by
  have := run_ge P s w
  rw [h] at this
  exact this
def Gs (d : Nat) : GStep → Prop
  | .go _ w _ => d ≤ w.drawn
  | .comm _ _ _ _ w _ => d ≤ w.drawn
  | .spawn _ _ w _ => d ≤ w.drawn
  | .count _ w _ => d ≤ w.drawn
  | .timer _ _ w _ => d ≤ w.drawn
  | .alone _ _ w _ => d ≤ w.drawn
  | .newcoro _ _ _ w _ => d ≤ w.drawn
  | .coroswitch _ _ _ w _ => d ≤ w.drawn
  | .collect _ w _ => d ≤ w.drawn
  | .watch _ w _ => d ≤ w.drawn
  | .ended _ _ _ => True
theorem Gs.le {d d' : Nat} {s : GStep} (h : Gs d s) (hd : d' ≤ d) : Gs d' s := by
  cases s <;> first | trivial | exact Nat.le_trans hd h
theorem Gs.after {d : Nat} {es : Array Event} {s : GStep} (h : Gs d s) : Gs d (s.after es) := by
  cases s <;> exact h
def Ss (d : Nat) : Stepped → Prop
  | .next m => d ≤ m.world.drawn
  | .ended _ _ => True
theorem Ss.le {d d' : Nat} {s : Stepped} (h : Ss d s) (hd : d' ≤ d) : Ss d' s := by
  cases s <;> first | trivial | exact Nat.le_trans hd h
def Mv (d : Nat) : Move → Prop
  | .goroutine m _ => d ≤ m.world.drawn
  | .machine s _ => Ss d s
theorem Mv.le {d d' : Nat} {s : Move} (h : Mv d s) (hd : d' ≤ d) : Mv d' s := by
  cases s
  · exact Nat.le_trans hd h
  · exact Ss.le h hd
theorem endThrow_ge (fr : Frame) (m : String) (w : World) : Gs w.drawn (endThrow fr m w) := Nat.le_refl _
theorem endWith_ge (w : World) (fd : Nat) (t : ByteArray) (o : Outcome) (d : Nat) : Gs d (endWith w fd t o) := by
  unfold endWith
  simp only []
  repeat' first
    | trivial
    | split
theorem endPrinting_ge (P : Program) (fr : Frame) (v : Value) (w : World) : Gs w.drawn (endPrinting P fr v w) := by
  unfold endPrinting
  simp only []
  repeat' first
    | trivial
    | exact Nat.le_refl _
    | split
theorem endFatal_ge (P : Program) (fr : Frame) (cs : List Frame) (dy : Option Dying) (m : String) (w : World) : Gs w.drawn (endFatal P fr cs dy m w) := by
  unfold endFatal
  extract_lets
  split
  · exact run_ok (by assumption)
  · trivial
  · trivial
theorem writeOn_ge (P : Program) (fr : Frame) (d : Dying) (f : Fatal) (w : World) : Gs w.drawn (writeOn P fr d f w) := by
  unfold writeOn
  extract_lets
  split
  · trivial
  · extract_lets
    rw [Sem.runT_eq]
    generalize hr : Sem.run P _ w = r
    cases r with
    | ok a w' => exact run_ok hr
    | halt a w' =>
      cases a <;> first | trivial | exact run_ha hr
theorem doReturn_ge (P : Program) (b : Bool) (fr : Frame) (cs : List Frame) (dy : Option Dying) (v : Value) (w : World) : Gs w.drawn (doReturn P b fr cs dy v w) := by
  unfold doReturn
  simp only []
  repeat' first
    | trivial
    | exact Nat.le_refl _
    | split
theorem die_ge (P : Program) (fr : Frame) (d : Dying) (w : World) : Gs w.drawn (die P fr d w) := by
  unfold die
  simp only [Sem.runT_eq]
  repeat' first
    | trivial
    | exact Nat.le_refl _
    | exact writeOn_ge _ _ _ _ _
    | exact endWith_ge _ _ _ _ _
    | exact run_ok (by assumption)
    | refine Gs.after ?_
    | exact (endPrinting_ge _ _ _ _).le (run_ha (by assumption))
    | split
theorem callDeferred_ge (P : Program) (fr : Frame) (cs : List Frame) (dy : Option Dying) (d : Deferred) (w : World) : Gs w.drawn (callDeferred P fr cs dy d w) := by
  unfold callDeferred
  simp only [Sem.runT_eq]
  generalize hr : Sem.run P (invoke d.target d.args) w = r
  cases r with
  | ok a w' =>
    have h2 := run_ok hr
    cases a
    all_goals try dsimp only
    all_goals repeat' first
      | trivial
      | exact h2
      | refine Gs.after ?_
      | (cases ‹Result.ok _ _ = Result.ok _ _› <;> first | exact h2 | trivial)
      | split
  | halt a w' =>
    have h2 := run_ha hr
    cases a
    all_goals try dsimp only
    all_goals repeat' first
      | trivial
      | exact h2
      | refine Gs.after ?_
      | exact (endFatal_ge _ _ _ _ _ _).le h2
      | exact (endThrow_ge _ _ _).le h2
      | split
theorem unwind_ge (P : Program) (b : Bool) (fr : Frame) (cs : List Frame) (dy : Option Dying) (w : World) : Gs w.drawn (unwind P b fr cs dy w) := by
  unfold unwind
  simp only [Sem.runT_eq]
  repeat' first
    | trivial
    | exact Nat.le_refl _
    | exact callDeferred_ge _ _ _ _ _ _
    | exact run_ok (by assumption)
    | refine Gs.after ?_
    | exact endPrinting_ge _ _ _ _
    | exact doReturn_ge _ _ _ _ _ _ _
    | exact (doReturn_ge _ _ _ _ _ _ _).le (run_ok (by assumption))
    | split
theorem early_ge (P : Program) (fr : Frame) (cs : List Frame) (dy : Option Dying) (g : Nat) (w : World) : Gs w.drawn (early P fr cs dy g w) := by
  unfold early
  simp only []
  repeat' first
    | trivial
    | exact Nat.le_refl _
    | (have h9 := run_ok ‹Sem.run P (choose (Question.early g)) w = Result.ok _ _›; exact h9)
    | split
theorem apply_ge (P : Program) (l : Bool) (fr : Frame) (cs : List Frame) (dy : Option Dying) (s : Sem Next) (w : World) : Gs w.drawn (stepG.apply P l fr cs dy s w) := by
  unfold stepG.apply
  have e : (if l = true then s.runT P w #[] else (s.run P w, #[])) = (s.run P w, (if l = true then s.runT P w #[] else (s.run P w, #[])).2) := by
    cases l
    · rfl
    · simp
  simp only []
  rw [e]
  generalize (if l = true then s.runT P w #[] else (s.run P w, #[])).2 = es
  generalize hr : Sem.run P s w = r
  refine Gs.after ?_
  cases r with
  | ok a w' =>
    have h2 := run_ok hr
    cases a
    all_goals try dsimp only
    all_goals repeat' first
      | trivial
      | exact h2
      | exact (endThrow_ge _ _ _).le h2
      | split
  | halt a w' =>
    have h2 := run_ha hr
    cases a
    all_goals try dsimp only
    all_goals repeat' first
      | trivial
      | exact h2
      | exact (endFatal_ge _ _ _ _ _ _).le h2
      | exact (endThrow_ge _ _ _).le h2
      | exact (early_ge _ _ _ _ _ _).le h2
      | (cases ‹Result.halt _ _ = Result.halt _ _› <;> first | exact h2 | exact (early_ge _ _ _ _ _ _).le h2 | trivial)
      | split
theorem oper_ge (P : Program) (l : Bool) (fr : Frame) (cs : List Frame) (dy : Option Dying) (w : World) : Gs w.drawn (stepG.oper P l fr cs dy w) := by
  unfold stepG.oper
  repeat' first
    | trivial
    | exact apply_ge _ _ _ _ _ _ _
    | split
theorem exec_ge (P : Program) (m l : Bool) (fr : Frame) (cs : List Frame) (dy : Option Dying) (w : World) : Gs w.drawn (stepG.exec P m l fr cs dy w) := by
  unfold stepG.exec
  simp only [Sem.runT_eq, Option.elim]
  split
  all_goals try exact Nat.le_refl _
  all_goals repeat' first
    | trivial
    | exact Nat.le_refl _
    | exact apply_ge _ _ _ _ _ _ _
    | exact oper_ge _ _ _ _ _ _
    | exact (doReturn_ge _ _ _ _ _ _ _).le (run_ok (by assumption))
    | exact (apply_ge _ _ _ _ _ _ _).le (run_ok (by assumption))
    | refine Gs.after ?_
    | (have h9 := run_ok (by assumption); exact h9)
    | (have h9 := run_ha (by assumption); exact h9)
    | exact run_ok (by assumption)
    | exact run_ha (by assumption)
    | split
theorem stepG_ge (P : Program) (m l : Bool) (g : Goroutine) (w : World) : Gs w.drawn (stepG P m g w l) := by
  unfold stepG
  repeat' first
    | exact die_ge _ _ _ _
    | exact exec_ge _ _ _ _ _ _ _
    | exact unwind_ge _ _ _ _ _ _
    | split
theorem waiting_ge {rest : Rest} {cases : Array CommCase} {w w' : World} (h : waitingAt rest cases w = some w') : w.drawn ≤ w'.drawn := by
  unfold waitingAt at h
  split at h
  · split at h
    · cases h; exact Nat.le_refl _
    · cases h
  · cases h; exact Nat.le_refl _
theorem comm_ge (P : Program) (rest : Rest) (gs : Array Goroutine) (i : Nat) (g : Goroutine) (cases : Array CommCase) (blocking : Bool) (shape : CommShape) (w : World) : Ss w.drawn (communicate P rest gs i g cases blocking shape w).1 := by
  unfold communicate
  extract_lets
  split
  · trivial
  split
  · split
    · split
      · exact waiting_ge (by assumption)
      · trivial
    · exact Nat.le_refl _
  · split
    · trivial
    · have h9 := run_ok (by assumption)
      try extract_lets
      repeat' first
        | trivial
        | exact h9
        | exact Nat.le_trans h9 (run_ok (by assumption))
        | exact Nat.le_trans h9 (run_ha (by assumption))
        | (have h8 := Nat.le_trans h9 (run_ok (by assumption)); exact h8)
        | split
theorem look_ge (P : Program) (gs : Array Goroutine) (rest : Rest) (w : World) : Ss w.drawn (look P gs rest w) := by
  unfold look
  simp only []
  repeat' first
    | trivial
    | exact run_ok (by assumption)
    | (have h9 := run_ok (by assumption); exact h9)
    | split
theorem serve_ge (P : Program) (m : Machine) (k : Nat) : Ss m.world.drawn (serve P m k) := by
  unfold serve
  simp only []
  repeat' first
    | trivial
    | exact Nat.le_refl _
    | split
theorem drain_ge (w : World) (c : Nat) : w.drawn ≤ (drain w c).2.drawn := by
  unfold drain
  split <;> exact Nat.le_refl _
theorem retime_ge (m : Machine) (k : Nat) (t : Timer) (a b : Nat) : m.world.drawn ≤ (retime m k t a b).2.world.drawn := by
  unfold retime
  cases t.chan with
  | none => exact Nat.le_refl _
  | some c => exact drain_ge m.world c
theorem named_ge {m m0 : Machine} {var : Addr} {f : Nat → Timer → Value × Machine} {r : Value × Machine} (hf : ∀ k t, m0.world.drawn ≤ (f k t).2.world.drawn) (h : timerOp.named m var f = .ok r) : m0.world.drawn ≤ r.2.world.drawn := by
  unfold timerOp.named at h
  split at h
  · cases h; exact hf _ _
  · cases h
theorem timer_ge {m : Machine} {op : TimerOp} {r : Value × Machine} (h : timerOp m op = .ok r) : m.world.drawn ≤ r.2.world.drawn := by
  cases op with
  | new t =>
    unfold timerOp at h
    simp only [] at h
    split at h
    · cases h; exact Nat.le_refl _
    · split at h
      · split at h
        · cases h
        · cases h; exact Nat.le_refl _
      · cases h
  | stop var => exact named_ge (fun k t => retime_ge m k t _ _) h
  | reset var a b =>
    unfold timerOp at h
    simp only [] at h
    split at h
    · rename_i m2 h2
      have e : m.world.drawn ≤ m2.world.drawn := by
        unfold timerOp.opened at h2
        split at h2
        · split at h2
          · cases h2; exact Nat.le_refl _
          · cases h2
        · cases h2; exact Nat.le_refl _
      exact named_ge (fun k t => Nat.le_trans e (retime_ge m2 k t _ _)) h
    · cases h
  | deadline ctx a b c =>
    unfold timerOp at h
    simp only [] at h
    cases h
    exact Nat.le_refl _
theorem runT_ge (P : Program) (m : Machine) (i : Nat) (b : Bool) : Ss m.world.drawn (runT P m i b).1 := by
  simp only [runT]
  generalize m.gs.swapAt! _ _ = gg
  have h := stepG_ge P (i == 0) b gg.1 m.world
  generalize stepG P _ gg.1 m.world b = s at h ⊢
  cases s with
  | go g w es => exact h
  | comm g cs bl sh w es => exact (comm_ge _ _ _ _ _ _ _ _ _).le h
  | spawn g c w es => exact h
  | count g w es =>
    simp only []
    split
    · trivial
    · exact h
  | timer g op w es =>
    simp only []
    split
    · have h2 := timer_ge (by assumption)
      exact Nat.le_trans h h2
    · exact h
    · trivial
    · trivial
  | alone g on w es => exact h
  | newcoro g c d w es => exact h
  | coroswitch g c ex w es =>
    simp only []
    split
    · exact h
    · exact h
    · trivial
  | collect g w es => exact (look_ge _ _ _ _).le h
  | watch g w es => exact h
  | ended o w es => trivial
theorem askOn_ge (P : Program) (m : Machine) : Mv m.world.drawn (askOn P m) := by
  unfold askOn
  simp only []
  split
  · trivial
  have h0 := run_ok (by assumption)
  split
  · exact (serve_ge _ _ _).le h0
  split
  · split
    · exact h0
    · split
      · exact h0
      · split
        · trivial
        · trivial
  · split
    · split
      · trivial
      · have h1 := Nat.le_trans h0 (run_ok (by assumption))
        split
        · exact h1
        · split
          · trivial
          · exact Nat.le_trans h1 (run_ok (by assumption))
    · split
      · trivial
      · have h1 := Nat.le_trans h0 (run_ok (by assumption))
        split
        · trivial
        · have h2 := Nat.le_trans h1 (run_ok (by assumption))
          split
          · exact h2
          · split
            · trivial
            · exact Nat.le_trans h2 (run_ok (by assumption))
      · have h1 := Nat.le_trans h0 (run_ok (by assumption))
        exact h1
      · have h1 := Nat.le_trans h0 (run_ok (by assumption))
        split
        · trivial
        · rename_i h5
          have h6 := run_ok h5
          have h2 := Nat.le_trans h1 h6
          split
          · exact h2
          · split
            · trivial
            · exact Nat.le_trans h2 (run_ok (by assumption))
theorem ask_ge' (P : Program) (m : Machine) : Mv m.world.drawn (ask P m) := by
  unfold ask
  split
  · split
    · trivial
    · have h9 := run_ok (by assumption)
      have h8 := (look_ge P m.gs m.rest _).le h9
      split
      · rename_i h7
        rw [h7] at h8
        exact (askOn_ge _ _).le h8
      · exact h8
    · have h9 := run_ok (by assumption)
      exact (askOn_ge _ _).le h9
  · exact askOn_ge _ _
theorem move_ge (P : Program) (m : Machine) : Mv m.world.drawn (move P m) := by
  unfold move
  repeat' first
    | trivial
    | exact Nat.le_refl _
    | exact ask_ge' P m
    | exact ask_ge' P { m with rest := { m.rest with slice := none } }
    | split
theorem step_ge (P : Program) (m : Machine) : Ss m.world.drawn (step P m) := by
  unfold step stepT
  have h := move_ge P m
  generalize move P m = v at h ⊢
  cases v with
  | goroutine m2 i => exact (runT_ge P m2 i true).le h
  | machine s ops => exact h
theorem runN_ge (P : Program) : ∀ (n : Nat) (m m' : Machine), runN P n m = .next m' → m.world.drawn ≤ m'.world.drawn
  | 0, m, m', h => by
    cases h; exact Nat.le_refl _
  | n + 1, m, m', h => by
    unfold runN at h
    have h2 := step_ge P m
    split at h
    · rename_i m2 h3
      rw [h3] at h2
      exact Nat.le_trans h2 (runN_ge P n _ m' h)
    · rename_i h3
      rw [h] at h2
      exact h2
theorem calls_ge {P : Program} {f : FuncId} {args : Array Value} {w : World} {R : Ending → World → Prop} (h : Calls P f args w R) (hr : ∀ e w', R e w' → ∃ v, e = .returned v) : Calls P f args w fun e w' => R e w' ∧ w.drawn ≤ w'.drawn := by
  intro cs
  obtain ⟨e, w', fr, h1, h2, h3, h4⟩ := h cs
  refine ⟨e, w', fr, ⟨h1, ?_⟩, h2, h3, h4⟩
  obtain ⟨v, rfl⟩ := hr e w' h1
  obtain ⟨n, hn⟩ := h2
  exact runN_ge P n _ _ hn
end Mo
end Go.Proofs.YtoaobngpdaidoaaGreatDoor
