/-
  What small and reached of the statements answer: the closed fact holds.
-/
import Derived.Test.YtacggkigfjpfnaaGreatDoorTm3
import Derived.Test.YtacggkigfjpfnaaGreatDoorTm1
import Derived.Test.YtacggkigfjpfnaaGreatDoorOrdD
import Derived.Test.YtacggkigfjpfnaaGreatDoorLessAny
import Derived.Laws.OwnMore
import Derived.Lib.AppendZeros
import Derived.OwnWalk
import Derived.Lib.SliceRun
namespace Go.Proofs.YtacggkigfjpfnaaGreatDoor
open Go.RowKit Go.Maps
namespace Ve

def ma0 : Bm := (⟨#[97]⟩, ⟨#[118, 49, 46, 48, 46, 48]⟩)
def ma1 : Bm := (⟨#[97]⟩, ⟨#[118, 49, 46, 49, 46, 48]⟩)
def mb0 : Bm := (⟨#[98]⟩, ⟨#[118, 48, 46, 49, 46, 48]⟩)
def smL : List Ent := [(ma0, [], [], false), (ma1, [mb0], [], false), (mb0, [], [], false)]
def smQ (g : Nat) : List Raw := [(ma0, .slice none 0 0, .slice none 0 0, false), (ma1, .slice (some ⟨g, 0, none⟩) 1 1, .slice none 0 0, false), (mb0, .slice none 0 0, .slice none 0 0, false)]
theorem pk_nilS : packErr (bl []) = 0 := pk_ok (by decide) rfl (by simp [risB, srtB, bl, Lib.compact, Lib.compactUpTo])
theorem sm_e0 : entE smL 0 = 0 := by
  show entW none _ = 0
  rw [entW_none (by kernel_rfl), entR_pack (by decide) (by kernel_rfl)]
  exact pk_nilS
theorem sm_e1 : entE smL 1 = 0 := by
  show entW (some _) _ = 0
  rw [entW_some (by kernel_rfl) (by kernel_rfl), entR_pack (by decide) (by kernel_rfl)]
  exact pk_nilS
theorem sm_e2 : entE smL 2 = 0 := by
  show entW (some _) _ = 0
  rw [entW_some (by kernel_rfl) (by kernel_rfl), entR_pack (by decide) (by kernel_rfl)]
  exact pk_nilS
theorem sm_chk (g : Nat) : chk (smQ g) smL = (0, none) := by
  have h2 : ∀ j, j < 3 → entE smL j = 0 := fun j hj => by
    rcases (by omega : j = 0 ∨ j = 1 ∨ j = 2) with rfl | rfl | rfl
    · exact sm_e0
    · exact sm_e1
    · exact sm_e2
  have h : fstE (entE smL) smL.length = none := fstE_none h2
  rw [chk_reqs (by decide) h]
  exact Prod.ext (show codeE (reqE2 (smQ g) smL) smL.length = 0 by kernel_rfl) (show fstE (reqE2 (smQ g) smL) smL.length = none by kernel_rfl)
theorem sm_chkG (g : Nat) : (chkG (smQ g) smL [ma1]).1 = 0 := by
  rw [chkG_ok (by rw [sm_chk])]
  show codeE (nonE (smQ g) [ma1]) 1 = 0
  kernel_rfl
theorem sm_r1 (g : Nat) : reqQ (smQ g) smL ma1 = [mb0] := by kernel_rfl
theorem sm_rb (g : Nat) : reqQ (smQ g) smL mb0 = [] := by kernel_rfl
theorem sm_rch {g : Nat} {m : Bm} (h : Rch (reqQ (smQ g) smL) [ma1] m) : m = ma1 ∨ m = mb0 := by
  induction h with
  | root hr => simp at hr; exact Or.inl hr
  | step _ hr ih =>
    rcases ih with rfl | rfl
    · rw [sm_r1] at hr; simp at hr; exact Or.inr hr
    · rw [sm_rb] at hr; simp at hr
theorem sm_go {g : Nat} {T : By} (h : Came (reqQ (smQ g) smL) (univ smL) [ma1] T) : goM T (smQ g) = [ma1, mb0] := by
  have c1 : cameB T ma1 = true := (h.cameB _).2 (.root (by simp))
  have cb : cameB T mb0 = true := (h.cameB _).2 (.step (.root (List.mem_singleton.2 rfl)) (by rw [sm_r1]; simp))
  have c0 : cameB T ma0 = false := by
    cases hc : cameB T ma0 with
    | false => rfl
    | true =>
      rcases sm_rch ((h.cameB _).1 hc) with e | e
      · exact absurd (congrArg (fun m : Bm => m.2.data) e) (by decide)
      · exact absurd (congrArg (fun m : Bm => m.1.data) e) (by decide)
  unfold goM goQ smQ
  simp [c0, c1, cb]
theorem sm_ixs {W : World} {g q : Nat} (hb : W.heap[q]? = some (.cells #[.string ⟨#[97]⟩, .string ⟨#[118, 49, 46, 48, 46, 48]⟩, .slice none 0 0, .slice none 0 0, .bool false, .string ⟨#[97]⟩, .string ⟨#[118, 49, 46, 49, 46, 48]⟩, .slice (some ⟨g, 0, none⟩) 1 1, .slice none 0 0, .bool false, .string ⟨#[98]⟩, .string ⟨#[118, 48, 46, 49, 46, 48]⟩, .slice none 0 0, .slice none 0 0, .bool false] 48 (0, 0)))
    (hg : W.heap[g]? = some (.cells #[.string ⟨#[98]⟩, .string ⟨#[118, 48, 46, 49, 46, 48]⟩] 45 (0, 0))) :
    Ixs W (.slice (some ⟨q, 0, none⟩) 3 3) (smQ g) smL := by
  have msn : MsAt W (.slice none 0 0) [] := ⟨none, 0, rfl, Nat.le_refl _, fun h => absurd rfl h⟩
  have txn : TxAt W (.slice none 0 0) [] := ⟨none, 0, rfl, Nat.le_refl _, fun h => absurd rfl h⟩
  have msb : MsAt W (.slice (some ⟨g, 0, none⟩) 1 1) [mb0] := ⟨some ⟨g, 0, none⟩, 1, rfl, Nat.le_refl _, fun _ => ⟨g, 0, rfl, fun j hj => by
    have : j = 0 := by simp at hj; exact hj
    subst this
    refine ⟨?_, ?_⟩ <;> (rw [Lib.cell_of_heap hg]; rfl)⟩⟩
  refine ⟨⟨some ⟨q, 0, none⟩, 3, rfl, Nat.le_refl _, fun r hr => ?_, fun _ => ⟨q, 0, rfl, fun j hj => ?_⟩⟩, rfl, fun j h1 h2 => ?_⟩
  · have : r = (ma0, .slice none 0 0, .slice none 0 0, false) ∨ r = (ma1, .slice (some ⟨g, 0, none⟩) 1 1, .slice none 0 0, false) ∨ r = (mb0, .slice none 0 0, .slice none 0 0, false) := by simpa [smQ] using hr
    rcases this with rfl | rfl | rfl
    · exact ⟨⟨none, 0, 0, rfl⟩, none, 0, 0, rfl⟩
    · exact ⟨⟨_, _, _, rfl⟩, none, 0, 0, rfl⟩
    · exact ⟨⟨none, 0, 0, rfl⟩, none, 0, 0, rfl⟩
  · have hj2 : j < 3 := hj
    rcases (by omega : j = 0 ∨ j = 1 ∨ j = 2) with rfl | rfl | rfl
    · refine ⟨?_, ?_, ?_, ?_, ?_⟩ <;> (rw [Lib.cell_of_heap hb]; rfl)
    · refine ⟨?_, ?_, ?_, ?_, ?_⟩ <;> (rw [Lib.cell_of_heap hb]; rfl)
    · refine ⟨?_, ?_, ?_, ?_, ?_⟩ <;> (rw [Lib.cell_of_heap hb]; rfl)
  · have hj2 : j < 3 := h1
    rcases (by omega : j = 0 ∨ j = 1 ∨ j = 2) with rfl | rfl | rfl
    · exact ⟨rfl, msn, txn, rfl⟩
    · exact ⟨rfl, msb, txn, rfl⟩
    · exact ⟨rfl, msn, txn, rfl⟩
theorem sm_sh : ∀ e, e ∈ smL → ShE e := fun e he => by
  have : e = smL[0] ∨ e = smL[1] ∨ e = smL[2] := by simpa [smL] using he
  rcases this with rfl | rfl | rfl
  · exact ⟨by decide, by decide, by decide, fun m hm => (by cases hm), by decide, fun x hx => (by cases hx)⟩
  · exact ⟨by decide, by decide, by decide, fun m hm => (by have : m = mb0 := List.mem_singleton.1 hm
                                                            subst this; exact ⟨by decide, by decide⟩), by decide, fun x hx => (by cases hx)⟩
  · exact ⟨by decide, by decide, by decide, fun m hm => (by cases hm), by decide, fun x hx => (by cases hx)⟩
set_option maxHeartbeats 2000000 in
/-- pewholderlaw2.small. -/
theorem smallI_any (w : World) : Calls Tryz.prog 18 #[] w fun e w' => ∃ g q, e = .returned (.slice (some ⟨q, 0, none⟩) 3 3) ∧ Ixs w' (.slice (some ⟨q, 0, none⟩) 3 3) (smQ g) smL ∧ Below w.heap.size w w' := by
  go_enter Tryz.func18, Tryz.ntmps18
  go_wp2_with fail
  go_ret
  refine ⟨w.heap.size, w.heap.size + 1, rfl, ?_, ((Below.refl w.heap.size w).alloc (Nat.le_refl _) _).alloc (by simp) _⟩
  have h2 := heap_alloc_new (w.alloc (.cells #[.string ⟨#[98]⟩, .string ⟨#[118, 48, 46, 49, 46, 48]⟩] 45)) (.cells #[.string ⟨#[97]⟩, .string ⟨#[118, 49, 46, 48, 46, 48]⟩, .slice none 0 0, .slice none 0 0, .bool false, .string ⟨#[97]⟩, .string ⟨#[118, 49, 46, 49, 46, 48]⟩, .slice (some ⟨w.heap.size, 0, none⟩) 1 1, .slice none 0 0, .bool false, .string ⟨#[98]⟩, .string ⟨#[118, 48, 46, 49, 46, 48]⟩, .slice none 0 0, .slice none 0 0, .bool false] 48)
  rw [show (w.alloc (.cells #[.string ⟨#[98]⟩, .string ⟨#[118, 48, 46, 49, 46, 48]⟩] 45)).heap.size = w.heap.size + 1 by simp] at h2
  exact sm_ixs h2 (heap_old _ _ (heap_new w _))
end Ve
end Go.Proofs.YtacggkigfjpfnaaGreatDoor

/-
  What LongMods of the statements answers, whatever its bound.
-/
namespace Go.Proofs.YtacggkigfjpfnaaGreatDoor
open Go.RowKit
namespace Ve

def okLN (N : Nat) (L : List Bm) : Bool := decide (L.length ≤ N) && L.all okM
theorem okLN_iff {N : Nat} {L : List Bm} (h : okLN N L = true) : L.length ≤ N ∧ ∀ m, m ∈ L → m.1.size ≤ 70 ∧ m.2.size ≤ 60 := by
  unfold okLN at h
  rw [Bool.and_eq_true] at h
  refine ⟨of_decide_eq_true h.1, fun m hm => ?_⟩
  have := List.all_eq_true.1 h.2 m hm
  unfold okM at this
  rw [Bool.and_eq_true] at this
  exact ⟨of_decide_eq_true this.1, of_decide_eq_true this.2⟩
set_option maxHeartbeats 1000000 in
theorem longN_some (N : Nat) (hN : N ≤ 1000) (L : List Bm) (b o c : Nat) (w : World) (hn : L.length ≤ N)
    (hc : ∀ j (h : j < L.length), w.cell? ⟨b, o + j * 2, none⟩ = some (.string L[j].1) ∧ w.cell? ⟨b, o + j * 2 + 1, none⟩ = some (.string L[j].2)) :
    Calls Tryz.prog 7 #[.slice (some ⟨b, o, none⟩) L.length c, .int .i64 (N : Int)] w fun e w' => e = .returned (.int .i64 (if okLN N L then 0 else 1)) ∧ w' = w := by
  have HC := hid hc
  have HO := hid (show okLN N L = L.all okM by unfold okLN; rw [decide_eq_true hn, Bool.true_and])
  have hn2 : ¬ (N : Int) < (L.length : Int) := by omega
  generalize hr : (if okLN N L then (0 : Int) else 1) = r
  have HR := hid hr
  clear hc hr
  go_enter Tryz.func7, Tryz.ntmps7
  go_wp2_with fail
  go_loop [5] (fun i => ∃ k : Nat, k ≤ L.length ∧ i = .int .i64 k ∧ Hid ((L.take k).all okM = true)) (fun i => L.length - (intOf i).toNat)
  case atStart => exact ⟨0, Nat.zero_le _, rfl, hid rfl⟩
  case round =>
    obtain ⟨k, hk, rfl, HA⟩ := hrel
    by_cases hlt : k < L.length
    · have hx := (HC.out k hlt).1
      have hy := (HC.out k hlt).2
      have HN := hid (fun h => all_take_next hlt HA.out h)
      have HX := hid (fun h => all_not hlt h)
      have HLT := hid hlt
      have hkI : (k : Int) < (L.length : Int) := by omega
      generalize L[k] = x at *
      clear hlt
      obtain ⟨p, v⟩ := x
      by_cases h1 : p.size ≤ 70
      · have h1' : ¬ (70 : Int) < (p.size : Int) := by omega
        by_cases h2 : v.size ≤ 60
        · have h2' : ¬ (60 : Int) < (v.size : Int) := by omega
          have HT := hid (HN.out (by unfold okM; rw [decide_eq_true h1, decide_eq_true h2]; rfl))
          go_wp2_with fail
          go_round
          case rel => exact ⟨k + 1, by have := HLT.out; omega, by go_num, HT⟩
          case measure => have := HLT.out; simp [intOf]; omega
        · have h2' : (60 : Int) < (v.size : Int) := by omega
          have HT := hid (HX.out (by unfold okM; rw [decide_eq_true h1, decide_eq_false h2]; rfl))
          go_wp2_with fail
          go_ret
          exact ⟨by rw [← HR.out, HO.out, HT.out]; rfl, rfl⟩
      · have h1' : (70 : Int) < (p.size : Int) := by omega
        have HT := hid (HX.out (by unfold okM; rw [decide_eq_false h1]; rfl))
        go_wp2_with fail
        go_ret
        exact ⟨by rw [← HR.out, HO.out, HT.out]; rfl, rfl⟩
    · have HT := hid (show L.all okM = true by have := HA.out; rw [List.take_of_length_le (by omega)] at this; exact this)
      go_wp2_with fail
      go_ret
      exact ⟨by rw [← HR.out, HO.out, HT.out]; rfl, rfl⟩
theorem longN_none (N : Nat) (a : Option Addr) (c : Nat) (w : World) : Calls Tryz.prog 7 #[.slice a 0 c, .int .i64 (N : Int)] w fun e w' => e = .returned (.int .i64 0) ∧ w' = w := by
  go_enter Tryz.func7, Tryz.ntmps7
  go_wp2_with fail
  go_loop [5] (fun i => i = .int .i64 0) (fun i => 0)
  case atStart => exact rfl
  case round =>
    obtain rfl := hrel
    go_wp2_with fail
    go_ret
    exact ⟨rfl, rfl⟩
theorem longN_many (N : Nat) (a : Option Addr) (n c : Nat) (w : World) (hn : N < n) : Calls Tryz.prog 7 #[.slice a n c, .int .i64 (N : Int)] w fun e w' => e = .returned (.int .i64 1) ∧ w' = w := by
  have hn2 : (N : Int) < (n : Int) := by omega
  go_enter Tryz.func7, Tryz.ntmps7
  go_wp2_with fail
  go_ret
  exact ⟨rfl, rfl⟩
theorem longN_any (N : Nat) (hN : N ≤ 1000) (L : List Bm) (v : Value) (w : World) (hv : MsAt w v L) : Calls Tryz.prog 7 #[v, .int .i64 (N : Int)] w fun e w' => e = .returned (.int .i64 (if okLN N L then 0 else 1)) ∧ w' = w := by
  obtain ⟨a, c, rfl, _, h⟩ := hv
  by_cases hn : L.length ≤ N
  · cases L with
    | nil => exact longN_none N a c w
    | cons x r =>
      obtain ⟨b, o, rfl, h2⟩ := h (by simp)
      exact longN_some N hN (x :: r) b o c w hn h2
  · have : okLN N L = false := by unfold okLN; rw [decide_eq_false hn]; rfl
    rw [this]
    exact longN_many N a L.length c w (by omega)

end Ve
end Go.Proofs.YtacggkigfjpfnaaGreatDoor

/-
  What FindOf of the document's answer says; whether a module is in a row.
-/
namespace Go.Proofs.YtacggkigfjpfnaaGreatDoor
open Go.RowKit Go.Maps
namespace Ve

def eqM (x m : Bm) : Bool := decide (x.1 = m.1 ∧ x.2 = m.2)
theorem eqM_iff {x m : Bm} : eqM x m = true ↔ x = m := by
  unfold eqM
  rw [decide_eq_true_iff]
  exact ⟨fun h => Prod.ext h.1 h.2, fun h => by rw [h]; exact ⟨rfl, rfl⟩⟩
theorem eqM_ne {x m : Bm} (h : x ≠ m) : eqM x m = false := by
  cases e : eqM x m with
  | false => rfl
  | true => exact absurd (eqM_iff.1 e) h
theorem eqM_run (x m : Bm) (W : World) : (binOp .eql 45 (.agg #[.string x.1, .string x.2]) (.agg #[.string m.1, .string m.2])).run Tryz.prog W = .ok (.bool (eqM x m)) W := modEql x.1 x.2 m.1 m.2 W
theorem neM_run (x m : Bm) (W : World) : (binOp .neq 45 (.agg #[.string x.1, .string x.2]) (.agg #[.string m.1, .string m.2])).run Tryz.prog W = .ok (.bool (!eqM x m)) W := modNeq x.1 x.2 m.1 m.2 W
/-- Is a module in a row? -/
def hasM (X : List Bm) (m : Bm) : Bool := X.any fun y => eqM y m
theorem hasM_iff {X : List Bm} {m : Bm} : hasM X m = true ↔ m ∈ X := by
  unfold hasM
  rw [List.any_eq_true]
  constructor
  · rintro ⟨y, hy, h⟩; rw [← eqM_iff.1 h]; exact hy
  · intro h; exact ⟨m, h, eqM_iff.2 rfl⟩
theorem hasM_next {X : List Bm} {k : Nat} (hk : k < X.length) (m : Bm) : hasM (X.take (k + 1)) m = (hasM (X.take k) m || eqM X[k] m) := by
  unfold hasM
  rw [List.take_succ_eq_append_getElem hk, List.any_append]
  simp
theorem hasM_nil (X : List Bm) (m : Bm) : hasM (X.take 0) m = false := by simp [hasM]
theorem hasM_all {X : List Bm} {k : Nat} (hk : ¬ k < X.length) (m : Bm) : hasM (X.take k) m = hasM X m := by rw [List.take_of_length_le (by omega)]
theorem idx_same {Q Q' : List Raw} (hl : Q.length = Q'.length) (h : ∀ j (h : j < Q.length) (h' : j < Q'.length), Q[j].1 = Q'[j].1) (m : Bm) : idxOf (isM m) Q = idxOf (isM m) Q' := by
  have e : ∀ j, idxE (isM m) Q j = idxE (isM m) Q' j := fun j => by
    unfold idxE
    by_cases hj : j < Q.length
    · have hj' : j < Q'.length := by omega
      rw [List.getElem?_eq_getElem hj, List.getElem?_eq_getElem hj']
      have : isM m Q[j] = isM m Q'[j] := by
        have := h j hj hj'
        unfold isM
        rw [this]
      simp only [this]
    · rw [List.getElem?_eq_none (by omega), List.getElem?_eq_none (by omega)]
  unfold idxOf
  rw [show idxE (isM m) Q = idxE (isM m) Q' from funext e, hl]
theorem ixs_same {w w' : World} {v v' : Value} {Q Q' : List Raw} {L : List Ent} (I : Ixs w v Q L) (I' : Ixs w' v' Q' L) (m : Bm) : idxOf (isM m) Q = idxOf (isM m) Q' :=
  idx_same (by rw [I.ln, I'.ln]) (fun j h h' => by
    have hj : j < L.length := by rw [← I.ln]; exact h
    rw [(I.ok j h hj).m, (I'.ok j h' hj).m]) m
set_option maxRecDepth 100000 in
set_option maxHeartbeats 1000000 in
theorem findOf_some (L : List Raw) (m : Bm) (b o c : Nat) (w : World) (hL : L.length ≤ 1000000)
    (hc : ∀ j (h : j < L.length), w.cell? ⟨b, o + j * 5, none⟩ = some (.string L[j].1.1) ∧ w.cell? ⟨b, o + j * 5 + 1, none⟩ = some (.string L[j].1.2)) :
    Calls Tryz.prog 77 #[.slice (some ⟨b, o, none⟩) L.length c, .agg #[.string m.1, .string m.2]] w fun e w' => e = .returned (.int .i64 (idxOf (isM m) L)) ∧ Below w.heap.size w w' := by
  have HC := hid hc
  have hgd := modGuard
  generalize hr : idxOf (isM m) L = r
  have HR := hid hr
  have HB0 := hid ((Below.refl w.heap.size w).alloc (Nat.le_refl _) (.cells #[.string m.1, .string m.2] 45))
  have HE0 := hid (heap_new w (.cells #[.string m.1, .string m.2] 45))
  clear hc hr
  go_enter Tryz.func77, Tryz.ntmps77
  go_wp2_with fail
  generalize hw1 : w.alloc (.cells #[.string m.1, .string m.2] 45) = w1 at *
  clear hw1
  go_loopw [5] (fun i wr => ∃ k : Nat, k ≤ L.length ∧ i = .int .i64 k ∧ Hid (∀ j (h : j < L.length), j < k → isM m L[j] = false) ∧ Hid (Below w1.heap.size w1 wr)) (fun i _ => L.length - (intOf i).toNat)
  case atStart => exact ⟨0, Nat.zero_le _, rfl, hid (fun j _ hj => absurd hj (by omega)), hid (Below.refl _ _)⟩
  case round =>
    obtain ⟨k, hk, rfl, HA, HB⟩ := hrel
    have HBw := hid (HB0.out.trans (HB.out.mono HB0.out.size))
    by_cases hlt : k < L.length
    · have x0 := cell_below HBw.out (HC.out k hlt).1
      have x1 := cell_below HBw.out (HC.out k hlt).2
      have hE : wr.heap[w.heap.size]? = some (.cells #[.string m.1, .string m.2] 45 (0, 0)) := (HB.out.block _ (lt_of_blk HE0.out)).trans HE0.out
      have y0 : wr.cell? ⟨w.heap.size, 0, none⟩ = some (.string m.1) := by rw [Lib.cell_of_heap hE]; rfl
      have y1 : wr.cell? ⟨w.heap.size, 1, none⟩ = some (.string m.2) := by rw [Lib.cell_of_heap hE]; rfl
      have HF := hid (fun h => idx_hit hlt HA.out h)
      have HN := hid (fun h => idx_next hlt HA.out h)
      have HEQ := hid (show isM m L[k] = eqM L[k].1 m from rfl)
      have hkI : (k : Int) < (L.length : Int) := by omega
      have HLT := hid hlt
      clear hE
      generalize L[k] = x at *
      clear hlt
      have heq := fun W => eqM_run x.1 m W
      cases he : eqM x.1 m with
      | false =>
        rw [he] at heq HEQ
        have HN2 := hid (HN.out HEQ.out)
        clear HF HN HEQ he
        go_wp2_with fail
        go_quiet (fail)
        go_wp2_with fail
        go_roundw
        case rel => first | exact ⟨k + 1, HLT.out, nr_idx k, HN2, hid (below_drawn_of HB.out _)⟩ | exact ⟨k + 1, HLT.out, nx_idx HLT.out hL, HN2, hid (below_drawn_of HB.out _)⟩
        case measure => first | exact nr_meas HLT.out | exact nx_meas HLT.out hL
      | true =>
        rw [he] at heq HEQ
        have HF2 := hid (HF.out HEQ.out)
        clear HF HN HEQ he
        go_wp2_with fail
        go_quiet (fail)
        go_wp2_with fail
        go_ret
        exact ⟨by rw [← HR.out, HF2.out]; rfl, below_drawn_of HBw.out _⟩
    · have HF := hid (show idxOf (isM m) L = -1 by unfold idxOf; rw [fstE_none (idxE_zero (Nat.le_refl _) (fun j hj _ => HA.out j hj (by omega)))])
      have hkI : ¬ (k : Int) < (L.length : Int) := by omega
      clear hlt
      go_wp2_with fail
      go_ret
      exact ⟨by rw [← HR.out, HF.out]; rfl, HBw.out⟩
/-- pewholderref1.FindOf, where there are entries. -/
theorem findOf_any (L : List Raw) (m : Bm) (v : Value) (w : World) (hL : L.length ≤ 1000000) (h0 : 0 < L.length) (hv : EsAt w v L) :
    Calls Tryz.prog 77 #[v, .agg #[.string m.1, .string m.2]] w fun e w' => e = .returned (.int .i64 (idxOf (isM m) L)) ∧ Below w.heap.size w w' := by
  obtain ⟨a, c, rfl, _, _, h⟩ := hv
  obtain ⟨b, o, rfl, h2⟩ := h (fun e => by rw [e] at h0; exact absurd h0 (Nat.lt_irrefl _))
  exact findOf_some L m b o c w hL (fun j hj => ⟨(h2 j hj).1, (h2 j hj).2.1⟩)
end Ve
end Go.Proofs.YtacggkigfjpfnaaGreatDoor

/-
  What is reached, in the order of an index; plain.
-/
namespace Go.Proofs.YtacggkigfjpfnaaGreatDoor
open Go.RowKit Go.Maps
namespace Ve

theorem goM_mem {w : World} {v : Value} {Q : List Raw} {L : List Ent} {roots : List Bm} {T : By} (I : Ixs w v Q L) (h : Came (reqQ Q L) (univ L) roots T) {m : Bm} : m ∈ goM T Q ↔ Rch (reqQ Q L) roots m := by
  constructor
  · intro hm
    obtain ⟨r, hr, rfl⟩ := List.mem_map.1 hm
    exact (h.cameB _).1 (List.mem_filter.1 hr).2
  · intro hm
    have hc := (h.cameB m).2 hm
    have hu := h.b.un m (cameB_iff.1 hc)
    obtain ⟨e, he, rfl⟩ := List.mem_map.1 hu
    obtain ⟨j, hj, rfl⟩ := List.getElem_of_mem he
    have hjq : j < Q.length := by rw [I.ln]; exact hj
    have hm1 := (I.ok j hjq hj).m
    refine List.mem_map.2 ⟨Q[j], List.mem_filter.2 ⟨List.getElem_mem hjq, ?_⟩, hm1⟩
    show cameB T Q[j].1 = true
    rw [hm1]
    exact hc
theorem goM_univ {w : World} {v : Value} {Q : List Raw} {L : List Ent} {T : By} (I : Ixs w v Q L) {m : Bm} (h : m ∈ goM T Q) : m ∈ univ L := by
  obtain ⟨r, hr, rfl⟩ := List.mem_map.1 h
  obtain ⟨j, hj, rfl⟩ := List.getElem_of_mem (List.mem_filter.1 hr).1
  obtain ⟨hj', e⟩ := ixs_get I hj
  exact List.mem_map.2 ⟨L[j], List.getElem_mem hj', e.symm⟩
theorem goM_same {Q : List Raw} {T T' : By} (h : ∀ m, cameB T m = cameB T' m) : goM T Q = goM T' Q := by
  unfold goM goQ
  rw [show (fun r : Raw => cameB T r.1) = fun r => cameB T' r.1 from funext fun r => h r.1]
theorem goM_len (T : By) (Q : List Raw) : (goM T Q).length ≤ Q.length := by
  unfold goM goQ
  rw [List.length_map]
  exact List.length_filter_le _ _
theorem chkG_in {w : World} {v : Value} {Q : List Raw} {L : List Ent} {R : List Bm} (I : Ixs w v Q L) (hc : (chk Q L).1 = 0) (h : ∀ m, m ∈ R → m ∈ univ L) : (chkG Q L R).1 = 0 := by
  rw [chkG_ok hc]
  have : fstE (nonE Q R) R.length = none := fstE_none fun j hj => by
    rw [nonE_at hj]
    unfold nonW
    obtain ⟨k, hk⟩ := (found_iff I R[j]).1 (h _ (List.getElem_mem hj))
    rw [hk, if_neg (by omega)]
  exact codeE_none this
/-- Of what is reached the same is reached. -/
theorem goM_again {w : World} {v : Value} {Q : List Raw} {L : List Ent} {roots : List Bm} {T T' : By} (I : Ixs w v Q L) (h : Came (reqQ Q L) (univ L) roots T) (h' : Came (reqQ Q L) (univ L) (goM T Q) T') : goM T' Q = goM T Q :=
  goM_same fun m => by
    have e : cameB T' m = true ↔ cameB T m = true := by
      rw [h'.cameB, h.cameB]
      exact Rch.again (fun m => goM_mem I h)
    cases h1 : cameB T' m with
    | true => exact (e.1 h1).symm
    | false =>
      cases h2 : cameB T m with
      | true => rw [e.2 h2] at h1; cases h1
      | false => rfl
end Ve
end Go.Proofs.YtacggkigfjpfnaaGreatDoor

/-
  What Check, Less and Max of package ver answer, and the document's IsLess and MaxOf: the same; nothing old in memory turns.
-/
namespace Go.Proofs.YtacggkigfjpfnaaGreatDoor
open Go.RowKit
namespace Ve

def maxB (s t : ByteArray) : ByteArray :=
  if verErr s.data.toList = 0 then (if verErr t.data.toList = 0 then (if ordV s.data.toList t.data.toList < 0 then t else s) else s) else if verErr t.data.toList = 0 then t else ⟨#[]⟩

set_option maxHeartbeats 1000000 in
theorem isLess_any (s t : ByteArray) (w : World) (hs : s.size < 999999) (ht : t.size < 999999) :
    Calls Tryz.prog 141 #[.string s, .string t] w fun e w' => e = .returned (.bool (lessB s.data.toList t.data.toList)) ∧ Below w.heap.size w w' := by
  have HL := hid (show lessB s.data.toList t.data.toList = (decide (verErr s.data.toList = 0) && (decide (verErr t.data.toList = 0) && decide (ordV s.data.toList t.data.toList < 0))) from rfl)
  have HA := hid (isVer_any s w (by omega))
  have HT := hid (fun W => isVer_any t W (by omega))
  by_cases h1 : verErr s.data.toList = 0
  all_goals by_cases h2 : verErr t.data.toList = 0
  · have HO := hid (fun W => orderVer_any s t W hs ht h1 h2)
    rw [decide_eq_true h1] at HA
    rw [decide_eq_true h2] at HT
    rw [decide_eq_true h1, decide_eq_true h2] at HL
    clear h1 h2
    generalize ordV s.data.toList t.data.toList = k at *
    go_enter Tryz.func141, Tryz.ntmps141
    go_wp2_with fail
    refine HA.out.mono ?_
    rintro e w1 ⟨rfl, hb1⟩
    have HB1 := hid hb1
    clear hb1
    go_wp2_with fail
    refine (HT.out _).mono ?_
    rintro e w2 ⟨rfl, hb2⟩
    have HB2 := hid (HB1.out.trans (hb2.mono HB1.out.size))
    clear hb2
    go_wp2_with fail
    refine (HO.out _).mono ?_
    rintro e w3 ⟨rfl, hb3⟩
    have HB3 := hid (HB2.out.trans (hb3.mono HB2.out.size))
    clear hb3
    go_wp2_with fail
    go_ret
    exact ⟨ret_bool (by rw [HL.out]; rfl), HB3.out⟩
  · rw [decide_eq_true h1] at HA
    rw [decide_eq_false h2] at HT
    rw [decide_eq_true h1, decide_eq_false h2] at HL
    clear h1 h2
    go_enter Tryz.func141, Tryz.ntmps141
    go_wp2_with fail
    refine HA.out.mono ?_
    rintro e w1 ⟨rfl, hb1⟩
    have HB1 := hid hb1
    clear hb1
    go_wp2_with fail
    refine (HT.out _).mono ?_
    rintro e w2 ⟨rfl, hb2⟩
    have HB2 := hid (HB1.out.trans (hb2.mono HB1.out.size))
    clear hb2
    go_wp2_with fail
    go_ret
    exact ⟨ret_bool (by rw [HL.out]; rfl), HB2.out⟩
  · rw [decide_eq_false h1] at HA
    rw [decide_eq_true h2] at HT
    rw [decide_eq_false h1] at HL
    clear h1 h2
    go_enter Tryz.func141, Tryz.ntmps141
    go_wp2_with fail
    refine HA.out.mono ?_
    rintro e w1 ⟨rfl, hb1⟩
    have HB1 := hid hb1
    clear hb1
    go_wp2_with fail
    refine (HT.out _).mono ?_
    rintro e w2 ⟨rfl, hb2⟩
    have HB2 := hid (HB1.out.trans (hb2.mono HB1.out.size))
    clear hb2
    go_wp2_with fail
    go_ret
    exact ⟨ret_bool (by rw [HL.out]; rfl), HB2.out⟩
  · rw [decide_eq_false h1] at HA
    rw [decide_eq_false h2] at HT
    rw [decide_eq_false h1] at HL
    clear h1 h2
    go_enter Tryz.func141, Tryz.ntmps141
    go_wp2_with fail
    refine HA.out.mono ?_
    rintro e w1 ⟨rfl, hb1⟩
    have HB1 := hid hb1
    clear hb1
    go_wp2_with fail
    refine (HT.out _).mono ?_
    rintro e w2 ⟨rfl, hb2⟩
    have HB2 := hid (HB1.out.trans (hb2.mono HB1.out.size))
    clear hb2
    go_wp2_with fail
    go_ret
    exact ⟨ret_bool (by rw [HL.out]; rfl), HB2.out⟩

theorem ret_str {a b : ByteArray} (h : a = b) : Ending.returned (.string a) = .returned (.string b) := by rw [h]
end Ve
end Go.Proofs.YtacggkigfjpfnaaGreatDoor

/-
  Modules appended to an own row; the document's IsAhead; what is reached rises.
-/
namespace Go.Proofs.YtacggkigfjpfnaaGreatDoor
open Go.RowKit Go.Maps
namespace Ve

/-- A row of modules, appended to an own one. -/
theorem both_run (X Y : List Bm) (dv sv : Value) (W : World) (B : Nat) (hB : B ≤ W.heap.size) (hX : X.length ≤ 1000) (hY : Y.length ≤ 1000) (ho : W.ownsRow B 45 2 dv X.length (flatM X)) (h : MsAt W sv Y) (he : Em sv Y) :
    ∃ v' W', (Builtin.append_ #[23, 23] 23 #[dv, sv]).run Tryz.prog W = .ok v' W' ∧ W'.ownsRow B 45 2 v' (X ++ Y).length (flatM (X ++ Y)) ∧ W.grownBy W' dv.ownBlock := by
  obtain ⟨i0, hi, hz0, hz1, hz2⟩ := info_parts infoMod
  obtain ⟨a, c, rfl, hc, h2⟩ := h
  have some_case : ∀ a', (∀ j u, (flatM Y)[j]? = some u → W.cell? (a'.add j) = some u) → ∃ v' W', (Builtin.append_ #[23, 23] 23 #[dv, .slice (some a') Y.length c]).run Tryz.prog W = .ok v' W' ∧ W'.ownsRow B 45 2 v' (X ++ Y).length (flatM (X ++ Y)) ∧ W.grownBy W' dv.ownBlock := fun a' hcell => by
    obtain ⟨v', W', h3, h4, h5, _⟩ := run_append_own (P := Tryz.prog) W B 23 23 45 i0 _ 2 32 Tryz.underlying23 hi hz0 hz1 hz2 rfl (by decide) dv X.length (flatM X) ho a' Y.length c (flatM Y) (flatM_len Y) hcell (flat_one Y) (by unfold maxLen; omega) (by omega) hB
    exact ⟨v', W', h3, by rw [List.length_append, flatM_app]; exact h4, h5⟩
  cases Y with
  | nil =>
    rcases he a c rfl rfl with hz | ⟨a', hz⟩
    · refine ⟨dv, W, ?_, by simpa using ho, ⟨rfl, rfl, rfl, Nat.le_refl _, fun _ _ _ => rfl⟩⟩
      show (Builtin.append_ #[23, 23] 23 #[dv, .slice a 0 c]).run Tryz.prog W = _
      rw [hz]
      exact run_append_owned_none (P := Tryz.prog) (w := W) B 23 23 45 i0 2 Tryz.underlying23 hi dv X.length (flatM X) ho
    · have hz' : (Value.slice a ([] : List Bm).length c) = .slice (some a') ([] : List Bm).length c := hz
      rw [hz']
      exact some_case a' (fun j u hj => by simp [flatM] at hj)
  | cons x r =>
    obtain ⟨b, o, rfl, hcell⟩ := h2 (by simp)
    exact some_case ⟨b, o, none⟩ (fun j u hj => by rw [Addr.add_lit]; exact ms_flat hcell j u hj)
set_option maxHeartbeats 1000000 in
/-- pewholderref1.IsAhead. -/
theorem isA_any (a b : Bm) (w : World) (hv : a.2.size < 999999) (hu : b.2.size < 999999) :
    Calls Tryz.prog 100 #[.agg #[.string a.1, .string a.2], .agg #[.string b.1, .string b.2]] w fun e w' => e = .returned (.bool (mAhead a b)) ∧ Below w.heap.size w w' := by
  obtain ⟨p, v⟩ := a
  obtain ⟨q, u⟩ := b
  have HO := hid (show mAhead (p, v) (q, u) = if p.data.toList = q.data.toList then lessB v.data.toList u.data.toList else decide (Lib.compareBytes p.data.toList q.data.toList < 0) from rfl)
  have HB0 := hid (((Below.refl w.heap.size w).alloc (Nat.le_refl _) (.cells #[.string p, .string v] 45)).alloc (by simp) (.cells #[.string q, .string u] 45))
  simp only at hv hu
  by_cases h : p = q
  · subst h
    rw [if_pos rfl] at HO
    have he := str_refl p
    have HL := hid (fun W => isLess_any v u W hv hu)
    go_enter Tryz.func100, Tryz.ntmps100
    go_wp2_with fail
    refine (HL.out _).mono ?_
    rintro e w1 ⟨rfl, hb⟩
    have HB := hid (HB0.out.trans (hb.mono HB0.out.size))
    clear hb
    go_wp2_with fail
    go_ret
    exact ⟨ret_bool HO.out.symm, HB.out⟩
  · rw [if_neg (fun e => h (str_ext e))] at HO
    have he := str_ne h
    have HC := hid (show Op.bytesLess p.toList q.toList = decide (Lib.compareBytes p.data.toList q.data.toList < 0) by rw [cb_less, ByteArray.toList_eq, ByteArray.toList_eq])
    clear h
    go_enter Tryz.func100, Tryz.ntmps100
    go_wp2_with fail
    go_ret
    exact ⟨ret_bool (by rw [HO.out, ← HC.out]), HB0.out⟩
theorem univ_eq {w : World} {v : Value} {Q : List Raw} {L : List Ent} (I : Ixs w v Q L) : Q.map (fun r => r.1) = univ L := by
  apply List.ext_getElem
  · simp [univ, I.ln]
  · intro j h1 h2
    have hq : j < Q.length := by simpa using h1
    have hl : j < L.length := by rw [← I.ln]; exact hq
    simp only [univ, List.getElem_map]
    exact (I.ok j hq hl).m
theorem univ_rises {Q : List Raw} {L : List Ent} (h : (chk Q L).1 = 0) : (univ L).Pairwise fun a b => mAhead a b = true := by
  rw [List.pairwise_iff_getElem]
  intro i j hi hj hij
  have hi2 : i < L.length := by simpa [univ] using hi
  have hj2 : j < L.length := by simpa [univ] using hj
  obtain ⟨d, rfl⟩ : ∃ d, j = i + d + 1 := ⟨j - i - 1, by omega⟩
  have := ahead_all (chk_each0 h).2 d i hj2
  simpa [univ] using this
theorem goM_rises {w : World} {v : Value} {Q : List Raw} {L : List Ent} {T : By} (I : Ixs w v Q L) (h : (chk Q L).1 = 0) : (goM T Q).Pairwise fun a b => mAhead a b = true := by
  have h1 := univ_rises h
  rw [← univ_eq I] at h1
  have h2 : (goM T Q).Sublist (Q.map fun r => r.1) := by
    unfold goM goQ
    exact List.Sublist.map _ List.filter_sublist
  exact h1.sublist h2
/-- What two lists of roots reach together is what each of them reaches. -/
theorem came_app {req : Bm → List Bm} {U a b : List Bm} {Ta Tb Tc : By} (ha : Came req U a Ta) (hb : Came req U b Tb) (hc : Came req U (a ++ b) Tc) (m : Bm) : cameB Tc m = (cameB Ta m || cameB Tb m) := by
  rw [Bool.eq_iff_iff, Bool.or_eq_true, hc.cameB, ha.cameB, hb.cameB]
  exact Rch.app
theorem goM_has {w : World} {v : Value} {Q : List Raw} {L : List Ent} {T : By} (I : Ixs w v Q L) {m : Bm} (hm : m ∈ univ L) : hasM (goM T Q) m = cameB T m := by
  rw [Bool.eq_iff_iff, hasM_iff]
  constructor
  · intro h
    obtain ⟨r, hr, rfl⟩ := List.mem_map.1 h
    exact (List.mem_filter.1 hr).2
  · intro h
    obtain ⟨e, he, rfl⟩ := List.mem_map.1 hm
    obtain ⟨j, hj, rfl⟩ := List.getElem_of_mem he
    have hjq : j < Q.length := by rw [I.ln]; exact hj
    have hm1 := (I.ok j hjq hj).m
    refine List.mem_map.2 ⟨Q[j], List.mem_filter.2 ⟨List.getElem_mem hjq, ?_⟩, hm1⟩
    show cameB T Q[j].1 = true
    rw [hm1]
    exact h
end Ve
end Go.Proofs.YtacggkigfjpfnaaGreatDoor

/-
  slices.Grow of nothing, and slices.Concat of two rows of modules.
-/
namespace Go.Proofs.YtacggkigfjpfnaaGreatDoor
open Go.RowKit
namespace Ve

theorem zero_len (n : Nat) : (Builtin.zeroCells (Value.agg #[.string ⟨#[]⟩, .string ⟨#[]⟩]).cells n).size = n * 2 := by
  simp [Builtin.zeroCells, Value.cells]
set_option maxHeartbeats 2000000 in
theorem grow_zero (w : World) : Calls Tryz.prog 86 #[.slice none 0 0, .int .i64 0] w fun e w' => e = .returned (.slice none 0 0) ∧ Below w.heap.size w w' := by
  go_enter Tryz.func86, Tryz.ntmps86
  go_wp2_with fail
  go_ret
  exact ⟨rfl, Below.refl _ _⟩
set_option maxRecDepth 100000 in
set_option maxHeartbeats 4000000 in
theorem grow_some (n : Nat) (w : World) (h0 : 0 < n) (hn : n ≤ 1000000) : Calls Tryz.prog 86 #[.slice none 0 0, .int .i64 (n : Int)] w fun e w' => ∃ v, e = .returned v ∧ w'.ownsRow w.heap.size 45 2 v 0 [] ∧ Below w.heap.size w w' := by
  obtain ⟨i0, hi, hz0, hz1, hz2⟩ := info_parts infoMod
  have HA := hid (fun (W : World) ty => Lib.run_append_nil_zeros (P := Tryz.prog) W 23 3 ty 45 i0 (.agg #[.string ⟨#[]⟩, .string ⟨#[]⟩]) .i64 .i64 Tryz.underlying23 Tryz.underlying3 hi hz0 n h0 (by rw [hz1]; omega) (by omega) (by rw [hz2]; omega))
  have hn0 : ¬ (n : Int) < 0 := by omega
  have hn1 : (0 : Int) < (n : Int) := by omega
  go_enter Tryz.func86, Tryz.ntmps86
  go_wp2_with (at_builtin; refine Lib.wpList_append_run _ rfl _ _ _ _ rfl _ _ rfl rfl _ _ (HA.out _ _) ?_)
  go_ret
  refine ⟨_, rfl, ⟨by simp, Or.inr ⟨w.heap.size, grownCap w n 0 45, _, rfl, Nat.le_refl _, heap_new w _, Nat.zero_le _, grownCap_le_maxLen w n 0 45 (by unfold maxLen; omega), ?_, by simp⟩⟩, below_drawn_of ((Below.refl w.heap.size w).alloc (Nat.le_refl _) _) 1⟩
  have h1 := zero_len n
  have h2 := zero_len (grownCap w n 0 45 - n)
  have h3 := grownCap_ge w n 0 45
  simp only [Value.cells] at h1 h2
  rw [Array.size_append, h1, h2]
  omega
set_option maxRecDepth 100000 in
set_option maxHeartbeats 8000000 in
/-- slices.Concat of two. -/
theorem cat_any (A B : List Bm) (va vb : Value) (lb : Nat) (w : World) (c0 : w.cell? ⟨lb, 0, none⟩ = some va) (c1 : w.cell? ⟨lb, 1, none⟩ = some vb) (hA : MsAt w va A) (hB : MsAt w vb B) (eA : Em va A) (eB : Em vb B) (lA : A.length ≤ 500) (lB : B.length ≤ 500) :
    Calls Tryz.prog 54 #[.slice (some ⟨lb, 0, none⟩) 2 2] w fun e w' => ∃ v, e = .returned v ∧ w'.ownsRow w.heap.size 45 2 v (A ++ B).length (flatM (A ++ B)) ∧ Below w.heap.size w w' := by
  obtain ⟨aa, ac, ea⟩ : ∃ a c, va = .slice a A.length c := by obtain ⟨a, c, e, _⟩ := hA; exact ⟨a, c, e⟩
  obtain ⟨ba, bc, eb⟩ : ∃ a c, vb = .slice a B.length c := by obtain ⟨a, c, e, _⟩ := hB; exact ⟨a, c, e⟩
  subst ea eb
  have HA := hid hA
  have HB := hid hB
  have HEA := hid eA
  have HEB := hid eB
  clear hA hB eA eB
  go_enter Tryz.func54, Tryz.ntmps54
  go_wp2_with fail
  go_loopw [3, 11] (fun s i wr => Hid (wr = w) ∧ ((s = .int .i64 0 ∧ i = .int .i64 0) ∨ (s = .int .i64 (A.length : Int) ∧ i = .int .i64 1) ∨ (s = .int .i64 ((A.length + B.length : Nat) : Int) ∧ i = .int .i64 2))) (fun _ i _ => 2 - (intOf i).toNat)
  case atStart => exact ⟨hid rfl, Or.inl ⟨rfl, rfl⟩⟩
  case round =>
    obtain ⟨HWR, ⟨rfl, rfl⟩ | ⟨rfl, rfl⟩ | ⟨rfl, rfl⟩⟩ := hrel
    all_goals obtain rfl := HWR.out
    all_goals clear HWR
    · have q1 : ¬ (A.length : Int) < 0 := by omega
      go_wp2_with fail
      go_roundw
      case rel => exact ⟨hid trivial, Or.inr (Or.inl ⟨rfl, rfl⟩)⟩
      case measure => decide
    · have q1 : ¬ (A.length : Int) + (B.length : Int) < 0 := by omega
      go_wp2_with fail
      go_roundw
      case rel => exact ⟨hid trivial, Or.inr (Or.inr ⟨by go_num, rfl⟩)⟩
      case measure => decide
    · have HG := hid (show Calls Tryz.prog 86 #[.slice none 0 0, .int .i64 ((A.length + B.length : Nat) : Int)] wr fun e w' => ∃ v, e = .returned v ∧ w'.ownsRow wr.heap.size 45 2 v 0 [] ∧ Below wr.heap.size wr w' by
        by_cases h0 : A.length + B.length = 0
        · rw [h0]
          exact (grow_zero wr).mono fun _ _ h => ⟨_, h.1, World.ownsRow_nil _ _ _ _, h.2⟩
        · exact grow_some (A.length + B.length) wr (by omega) (by omega))
      go_wp2_with fail
      refine HG.out.mono ?_
      rintro e w1 ⟨v0, rfl, hown, hb⟩
      have HO := hid hown
      have HBL := hid hb
      obtain ⟨oa, on, oc, hv0⟩ := own_sl hown
      subst hv0
      clear hown hb HG
      go_wp2_with fail
      go_loopw [6, 27] (fun v i W => ∃ (k : Nat) (X : List Bm), i = .int .i64 (k : Int) ∧ ((k = 0 ∧ X = []) ∨ (k = 1 ∧ X = A) ∨ (k = 2 ∧ X = A ++ B)) ∧ Hid (W.ownsRow wr.heap.size 45 2 v X.length (flatM X)) ∧ Hid (Below wr.heap.size wr W)) (fun _ i _ => 2 - (intOf i).toNat)
      case atStart => exact ⟨0, [], rfl, Or.inl ⟨rfl, rfl⟩, HO, HBL⟩
      case round =>
        obtain ⟨k, X, rfl, hk, HOW, HBW⟩ := hrel
        have HSZ := hid HBW.out.size
        rcases hk with ⟨rfl, rfl⟩ | ⟨rfl, rfl⟩ | ⟨rfl, rfl⟩
        · have d0 := cell_below HBW.out c0
          obtain ⟨v2, W2, hrun, ho2, hg2⟩ := both_run [] A _ _ wr _ HSZ.out (by simp) (by omega) HOW.out (HA.out.below HBW.out) HEA.out
          have HRUN := hid hrun
          have HO2 := hid (show W2.ownsRow _ 45 2 v2 A.length (flatM A) from ho2)
          have HB2 := hid (HBW.out.grown hg2 HBW.out.size (fun k hk => (HOW.out.lt k hk).1))
          clear hrun ho2 hg2
          go_wp2_with (at_builtin; refine Lib.wpList_append_run _ rfl _ _ _ _ rfl _ _ rfl rfl _ _ HRUN.out ?_)
          go_roundw
          case rel => exact ⟨1, A, rfl, Or.inr (Or.inl ⟨rfl, rfl⟩), HO2, HB2⟩
          case measure => decide
        · have d1 := cell_below HBW.out c1
          obtain ⟨v2, W2, hrun, ho2, hg2⟩ := both_run X B _ _ wr _ HSZ.out (by omega) (by omega) HOW.out (HB.out.below HBW.out) HEB.out
          have HRUN := hid hrun
          have HO2 := hid ho2
          have HB2 := hid (HBW.out.grown hg2 HBW.out.size (fun k hk => (HOW.out.lt k hk).1))
          clear hrun ho2 hg2
          go_wp2_with (at_builtin; refine Lib.wpList_append_run _ rfl _ _ _ _ rfl _ _ rfl rfl _ _ HRUN.out ?_)
          go_roundw
          case rel => exact ⟨2, X ++ B, rfl, Or.inr (Or.inr ⟨rfl, rfl⟩), HO2, HB2⟩
          case measure => decide
        · go_wp2_with fail
          go_ret
          exact ⟨_, rfl, HOW.out, HBW.out⟩
end Ve
end Go.Proofs.YtacggkigfjpfnaaGreatDoor

/-
  mvs.Join: of each path of both the greater version.
-/
namespace Go.Proofs.YtacggkigfjpfnaaGreatDoor
open Go.RowKit
namespace Ve

theorem insM_nil (a : Option Addr) (c : Nat) (W : World) : Calls Tryz.prog 111 #[.slice a 0 c, .int .i64 0, .int .i64 0, .func (.func 51) #[] #[]] W fun e w' => e = .returned (.tuple #[]) ∧ w' = W := by
  go_enter Tryz.func111, Tryz.ntmps111
  go_wp2_with fail
  go_loop [8] (fun i => i = .int .i64 1) (fun _ => 0)
  case atStart => rfl
  case round =>
    obtain rfl := hrel
    go_wp2_with fail
    go_end0
    exact ⟨rfl, rfl⟩
set_option maxRecDepth 100000 in
set_option maxHeartbeats 2000000 in
theorem pdqM_nil (a : Option Addr) (c : Nat) (n : Int) (W : World) : Calls Tryz.prog 82 #[.slice a 0 c, .int .i64 0, .int .i64 0, .int .i64 n, .func (.func 51) #[] #[]] W fun e w' => e = .returned (.tuple #[]) ∧ w' = W := by
  have HI := hid (insM_nil a c W)
  go_enter Tryz.func82, Tryz.ntmps82
  go_wp2_with fail
  go_loop [1, 2, 3, 10, 11] (fun a b _ _ _ => a = .int .i64 0 ∧ b = .int .i64 0) (fun _ _ _ _ _ => 0)
  case atStart => exact ⟨rfl, rfl⟩
  case round =>
    obtain ⟨rfl, rfl⟩ := hrel
    go_wp2_with fail
    refine HI.out.mono ?_
    rintro e w' ⟨rfl, rfl⟩
    go_wp2_with fail
    first | (go_end0; exact ⟨rfl, rfl⟩) | (go_ret; exact ⟨rfl, rfl⟩) | (refine bodyPost_ret (v := .tuple #[]) (by simp [results, Tryz.results82]) rfl ⟨rfl, rfl⟩)
set_option maxHeartbeats 1000000 in
theorem sortM_nil (a : Option Addr) (c : Nat) (W : World) : Calls Tryz.prog 50 #[.slice a 0 c, .func (.func 51) #[] #[]] W fun e w' => e = .returned (.tuple #[]) ∧ Below W.heap.size W w' := by
  have HLN := hid (show Calls Tryz.prog 83 #[.int .u64 0] W fun e w' => e = .returned (.int .i64 (Lib.bitLen 0 : Nat)) ∧ w' = W from by
    have h := Any.bits_Len (SlLaysF0.n15.bits (P := Tryz.prog) (ρ := Tryz.sortMods_ren) { Tryz.sortMods with }) 0 W (by omega) (by omega)
    exact h)
  have HP := hid (fun n => pdqM_nil a c n W)
  go_enter Tryz.func50, Tryz.ntmps50
  go_wp2_with fail
  refine HLN.out.mono ?_
  rintro e w' ⟨rfl, rfl⟩
  go_wp2_with fail
  refine (HP.out _).mono ?_
  rintro e w' ⟨rfl, rfl⟩
  go_wp2_with fail
  go_end0
  exact ⟨rfl, Below.refl _ _⟩
set_option maxHeartbeats 1000000 in
theorem delM_nil (a : Option Addr) (c : Nat) (W : World) : Calls Tryz.prog 38 #[.slice a 0 c, .func (.func 55) #[] #[]] W fun e w' => e = .returned (.slice a 0 c) ∧ Below W.heap.size W w' := by
  have HI := hid (idxM_none 55 #[] a c W)
  go_enter Tryz.func38, Tryz.ntmps38
  go_wp2_with fail
  refine HI.out.mono ?_
  rintro e w1 ⟨rfl, hb⟩
  have HB := hid hb
  clear hb
  go_wp2_with fail
  go_ret
  exact ⟨rfl, HB.out⟩
/-- A row of modules that a call owns: nothing, or in a block of its own. -/
def Mr (w0 W : World) (v : Value) (D : List Bm) : Prop := Below w0.heap.size w0 W ∧ ∃ a cap, v = .slice a D.length cap ∧ D.length ≤ cap ∧ ((D = [] ∧ (a = none → cap = 0)) ∨ ∃ g, a = some ⟨g, 0, none⟩ ∧ Mw w0 W g D)
theorem Mr.ms {w0 W : World} {v : Value} {D : List Bm} (h : Mr w0 W v D) : MsAt W v D := by
  obtain ⟨_, a, cap, rfl, hc, ⟨rfl, _⟩ | ⟨g, rfl, h⟩⟩ := h
  · exact ⟨a, cap, rfl, hc, fun h => absurd rfl h⟩
  · exact h.ms hc
theorem Mr.em {w0 W : World} {v : Value} {D : List Bm} (h : Mr w0 W v D) : Em v D := by
  obtain ⟨_, a, cap, rfl, hc, h⟩ := h
  intro a' c' e hD
  injection e with e1 e2 e3
  subst e1 e3
  cases a with
  | some a' => exact Or.inr ⟨a', rfl⟩
  | none =>
    rcases h with ⟨_, h0⟩ | ⟨g, h, _⟩
    · rw [h0 rfl]; exact Or.inl rfl
    · cases h
theorem mr_own {w0 W : World} {v : Value} {L : List Bm} (h : W.ownsRow w0.heap.size 45 2 v L.length (flatM L)) (hb : Below w0.heap.size w0 W) : Mr w0 W v L := by
  by_cases hL : L = []
  · subst hL
    obtain ⟨_, ⟨rfl, _⟩ | ⟨g, cap, cur, rfl, _, _, _, _⟩⟩ := h
    · exact ⟨hb, none, 0, rfl, Nat.le_refl _, Or.inl ⟨rfl, fun _ => rfl⟩⟩
    · exact ⟨hb, _, cap, rfl, Nat.zero_le _, Or.inl ⟨rfl, fun h => by cases h⟩⟩
  · obtain ⟨g, cap, rfl, h1, _, h3⟩ := own_mw h hb hL
    exact ⟨hb, _, cap, rfl, h1, Or.inr ⟨g, rfl, h3⟩⟩
theorem Mr.base {w w0 W : World} {v : Value} {D : List Bm} (h : Mr w0 W v D) (hb : Below w.heap.size w w0) : Mr w W v D := by
  obtain ⟨h1, a, cap, rfl, hc, hk⟩ := h
  refine ⟨hb.trans (h1.mono hb.size), a, cap, rfl, hc, ?_⟩
  rcases hk with hk | ⟨g, rfl, hM⟩
  · exact Or.inl hk
  · exact Or.inr ⟨g, rfl, hb.trans (h1.mono hb.size), Nat.le_trans hb.size hM.lo, hM.hi, hM.fz, hM.c0, hM.c1⟩
theorem Mr.sl {w0 W : World} {v : Value} {D : List Bm} (h : Mr w0 W v D) : ∃ a c, v = .slice a D.length c := by
  obtain ⟨_, a, cap, rfl, _⟩ := h
  exact ⟨a, cap, rfl⟩
set_option maxHeartbeats 2000000 in
/-- mvs.right of two. -/
theorem right_any (X Y : List Bm) (va vb : Value) (lb : Nat) (A : Nat → Addr) (ml : Int) (w : World) (c0 : w.cell? ⟨lb, 0, none⟩ = some va) (c1 : w.cell? ⟨lb, 1, none⟩ = some vb) (hA : MsAt w va X) (hB : MsAt w vb Y) (eA : Em va X) (eB : Em vb Y) (lA : X.length ≤ 500) (lB : Y.length ≤ 500)
    (hz : ∀ r, r ∈ X ++ Y → r.1.size < 999999 ∧ r.2.size < 999999) (S : Te w A ml) :
    Calls Tryz.prog 36 #[.slice (some ⟨lb, 0, none⟩) 2 2] w fun e w' => ∃ v, e = .returned v ∧ Mr w w' v (rightL (X ++ Y)) := by
  have HC := hid (cat_any X Y va vb lb w c0 c1 hA hB eA eB lA lB)
  have HS := hid S
  have HZ := hid hz
  have hl : (X ++ Y).length ≤ 1000 := by simp; omega
  generalize X ++ Y = D at *
  clear hA hB eA eB S hz c0 c1
  go_enter Tryz.func36, Tryz.ntmps36
  go_wp2_with fail
  refine HC.out.mono ?_
  rintro e w1 ⟨v, rfl, hown, hb⟩
  obtain ⟨_, a, cap, rfl, hcap, hk⟩ := mr_own hown hb
  have HBL := hid hb
  clear hown hb
  rcases hk with ⟨rfl, h0⟩ | ⟨g, rfl, hM⟩
  · have HD := hid (delM_nil a cap w1)
    go_wp2_with fail
    refine HD.out.mono ?_
    rintro e w2 ⟨rfl, hb⟩
    have HB2 := hid (HBL.out.trans (hb.mono HBL.out.size))
    clear hb
    go_wp2_with fail
    go_ret
    exact ⟨_, rfl, HB2.out, a, cap, rfl, Nat.zero_le _, Or.inl ⟨rfl, h0⟩⟩
  · have HD := hid (del_mw w w1 g cap D A ml HS.out (by omega) hcap HZ.out hM)
    have HRL := hid (show (rightL D).length ≤ cap from Nat.le_trans (List.length_filter_le _ _) hcap)
    clear hM
    go_wp2_with fail
    refine HD.out.mono ?_
    rintro e w2 ⟨rfl, hm⟩
    have HM2 := hid hm
    clear hm
    go_wp2_with fail
    go_ret
    exact ⟨_, rfl, HM2.out.bl, _, cap, rfl, HRL.out, Or.inr ⟨g, rfl, HM2.out⟩⟩
theorem Jn.nil : Jn [] [] := ⟨List.Pairwise.nil, fun _ h => absurd h (by simp), fun _ h => absurd h (by simp)⟩
theorem Jn.perm {D D' E : List Bm} (h : Jn D' E) (hp : D'.Perm D) : Jn D E :=
  ⟨h.ri, fun e he => ⟨hp.mem_iff.1 (h.sub e he).1, (h.sub e he).2⟩, fun x hx => h.top x (hp.mem_iff.2 hx)⟩
theorem Jn.right {D E : List Bm} (h : Jn (rightL D) E) : Jn D E :=
  ⟨h.ri, fun e he => ⟨(rightL_mem.1 (h.sub e he).1).1, (h.sub e he).2⟩, fun x hx hr => h.top x (rightL_mem.2 ⟨hx, hr⟩) hr⟩
set_option maxHeartbeats 2000000 in
/-- mvs.greatest of a row of its own. -/
theorem great_any (D : List Bm) (v : Value) (A : Nat → Addr) (ml : Int) (w0 w : World) (hM : Mr w0 w v D) (h12 : D.length ≤ 1000000) (hr : ∀ r, r ∈ D → Rt r) (S : Te w0 A ml) :
    Calls Tryz.prog 35 #[v] w fun e w' => ∃ u E, e = .returned u ∧ E.length ≤ D.length ∧ Jn D E ∧ Mr w0 w' u E := by
  obtain ⟨hb, a, cap, rfl, hcap, hk⟩ := hM
  by_cases hD : D = []
  · subst hD
    have HS := hid (sortM_nil a cap w)
    have HC := hid (fun W => compactM_nil a cap W)
    have h0 : a = none → cap = 0 := by
      rcases hk with ⟨_, h0⟩ | ⟨g, rfl, _⟩
      · exact h0
      · intro h; cases h
    have HBL := hid hb
    clear hk hb S
    go_enter Tryz.func35, Tryz.ntmps35
    go_wp2_with fail
    refine HS.out.mono ?_
    rintro e w1 ⟨rfl, hb⟩
    have HB1 := hid (HBL.out.trans (hb.mono HBL.out.size))
    clear hb
    go_wp2_with fail
    refine (HC.out _).mono ?_
    rintro e w2 ⟨rfl, hb⟩
    have HB2 := hid (HB1.out.trans (hb.mono HB1.out.size))
    clear hb
    go_wp2_with fail
    go_ret
    exact ⟨_, [], rfl, Nat.le_refl _, Jn.nil, HB2.out, a, cap, rfl, Nat.zero_le _, Or.inl ⟨rfl, h0⟩⟩
  · obtain ⟨g, rfl, hM⟩ : ∃ g, a = some ⟨g, 0, none⟩ ∧ Mw w0 w g D := by
      rcases hk with ⟨h, _⟩ | h
      · exact absurd h hD
      · exact h
    have HS := hid (sort_mw w0 w g cap D hD h12 A ml S hr hM)
    have HRT := hid hr
    have HD := hid hD
    clear hk hb S hM hr hD
    go_enter Tryz.func35, Tryz.ntmps35
    go_wp2_with fail
    refine HS.out.mono ?_
    rintro e w1 ⟨rfl, D1, hp, hs, hM1⟩
    have hl : D1.length = D.length := hp.length_eq
    have HC := hid (compact_mw w0 w1 g cap D1 (fun e => HD.out (by rw [e] at hl; exact List.length_eq_zero_iff.1 hl.symm)) (by omega) (by omega) (fun r h => HRT.out r (hp.mem_iff.1 h)) hs hM1)
    have HP := hid hp
    rw [hl] at HC
    clear hp hs hM1 HS
    go_wp2_with fail
    refine HC.out.mono ?_
    rintro e w2 ⟨E, rfl, hEl, hj, hM2⟩
    have HJ := hid (hj.perm HP.out)
    have HM2 := hid hM2
    clear hj hM2
    go_wp2_with fail
    go_ret
    exact ⟨_, E, rfl, hEl, HJ.out, HM2.out.bl, _, cap, rfl, by omega, Or.inr ⟨g, rfl, HM2.out⟩⟩
set_option maxHeartbeats 2000000 in
/-- mvs.Join. -/
theorem join_mods (X Y : List Bm) (va vb : Value) (A : Nat → Addr) (ml : Int) (w : World) (hA : MsAt w va X) (hB : MsAt w vb Y) (eA : Em va X) (eB : Em vb Y) (lA : X.length ≤ 500) (lB : Y.length ≤ 500)
    (hz : ∀ r, r ∈ X ++ Y → r.1.size < 999999 ∧ r.2.size < 999999) (S : Te w A ml) :
    Calls Tryz.prog 20 #[va, vb] w fun e w' => ∃ v E, e = .returned v ∧ E.length ≤ (X ++ Y).length ∧ Jn (X ++ Y) E ∧ Mr w w' v E := by
  obtain ⟨aa, an, ac, ea⟩ := hA.slice
  obtain ⟨ba, bn, bc, eb⟩ := hB.slice
  subst ea eb
  have HB0 := hid ((Below.refl w.heap.size w).alloc (Nat.le_refl _) (.cells #[.slice aa an ac, .slice ba bn bc] 23))
  have HR := hid (right_any X Y _ _ w.heap.size A ml (w.alloc (.cells #[.slice aa an ac, .slice ba bn bc] 23)) (by simp) (by simp) (hA.below HB0.out) (hB.below HB0.out) eA eB lA lB hz (S.below HB0.out))
  have HS := hid S
  have HRT := hid (show ∀ r, r ∈ rightL (X ++ Y) → Rt r from fun r h => ⟨(rightL_mem.1 h).2, (hz r (rightL_mem.1 h).1).1, (hz r (rightL_mem.1 h).1).2⟩)
  have hl : (X ++ Y).length ≤ 1000 := by simp; omega
  have HRL := hid (show (rightL (X ++ Y)).length ≤ (X ++ Y).length from List.length_filter_le _ _)
  generalize X ++ Y = D at *
  clear hA hB eA eB S hz
  go_enter Tryz.func20, Tryz.ntmps20
  go_wp2_with fail
  refine HR.out.mono ?_
  rintro e w1 ⟨v, rfl, hm⟩
  have HG := hid (great_any (rightL D) v A ml _ w1 hm (by have := HRL.out; omega) HRT.out (HS.out.below HB0.out))
  obtain ⟨va, vc, hv⟩ := hm.sl
  subst hv
  clear hm HR
  go_wp2_with fail
  refine HG.out.mono ?_
  rintro e w2 ⟨u, E, rfl, hl2, hj, hM⟩
  have HJ := hid hj.right
  have HM := hid (hM.base HB0.out)
  have HEL := hid (Nat.le_trans hl2 HRL.out)
  obtain ⟨ua, uc, hu⟩ := hM.sl
  subst hu
  clear hj hM hl2
  go_wp2_with fail
  go_ret
  exact ⟨_, E, rfl, HEL.out, HJ.out, HM.out⟩
end Ve
end Go.Proofs.YtacggkigfjpfnaaGreatDoor

/-
  slices.DeleteFunc over a row of modules, by any test that leaves old memory as it is.
-/
namespace Go.Proofs.YtacggkigfjpfnaaGreatDoor
open Go.RowKit
namespace Ve

/-- Those that a test does not hit. -/
def kpL (P : Bm → Bool) (D : List Bm) : List Bm := D.filter fun m => !P m
theorem kpL_take {P : Bm → Bool} {D : List Bm} {k : Nat} (hk : k < D.length) : kpL P (D.take (k + 1)) = if P D[k] then kpL P (D.take k) else kpL P (D.take k) ++ [D[k]] := by
  unfold kpL
  rw [List.take_succ_eq_append_getElem hk, List.filter_append]
  cases h : P D[k] <;> simp [h]
theorem kpL_first {P : Bm → Bool} {D : List Bm} {k : Nat} (hk : k < D.length) (h1 : P D[k] = true) (h2 : ∀ j (hj : j < D.length), j < k → P D[j] = false) : kpL P (D.take (k + 1)) = D.take k := by
  rw [kpL_take hk, if_pos h1]
  unfold kpL
  rw [List.filter_eq_self]
  intro x hx
  obtain ⟨i, hi, him, rfl⟩ := mem_take_at hx
  rw [h2 i hi him]; rfl
theorem kpL_all {P : Bm → Bool} {D : List Bm} (h : ∀ x, x ∈ D → P x = false) : kpL P D = D := by
  unfold kpL
  rw [List.filter_eq_self]
  intro x hx
  rw [h x hx]; rfl
theorem kpL_len (P : Bm → Bool) (D : List Bm) : (kpL P D).length ≤ D.length := List.length_filter_le _ _
set_option maxRecDepth 100000 in
set_option maxHeartbeats 8000000 in
theorem delP_mw (K : Nat) (cb : Array Value) (P : Bm → Bool) (w0 w : World) (g cap : Nat) (D : List Bm) (eg : ∀ args w, (callFunc K args).run Tryz.prog w = .ok (.enter K args) w) (h12 : D.length ≤ 1000000) (hc : D.length ≤ cap) (hR : Mw w0 w g D)
    (hK : ∀ (x : Bm) W, Below w0.heap.size w0 W → Calls Tryz.prog K (#[.agg #[.string x.1, .string x.2]] ++ cb) W fun e w' => e = .returned (.bool (P x)) ∧ Below W.heap.size W w') :
    Calls Tryz.prog 38 #[.slice (some ⟨g, 0, none⟩) D.length cap, .func (.func K) #[] cb] w fun e w' => e = .returned (.slice (some ⟨g, 0, none⟩) (kpL P D).length cap) ∧ Mw w0 w' g (kpL P D) := by
  have HRK := hid hK
  have HI := hid (idxM_any K cb P D _ w eg h12 (hR.ms hc) (fun i hi W hW => HRK.out D[i] W (hR.bl.trans (hW.mono hR.bl.size))))
  have HR := hid hR
  clear hR hK
  rcases idxB_kind P D with ⟨e1, h2⟩ | ⟨k, hk, e1, h2, h3⟩
  · rw [e1] at HI
    rw [kpL_all h2]
    clear e1 h2
    go_enter Tryz.func38, Tryz.ntmps38
    go_wp2_with fail
    refine HI.out.mono ?_
    rintro e w1 ⟨rfl, hb⟩
    have HR1 := hid (HR.out.below hb)
    clear hb
    go_wp2_with fail
    go_ret
    exact ⟨rfl, HR1.out⟩
  · rw [e1] at HI
    have HF := hid (kpL_first hk h2 h3)
    have hkn : ¬ (k : Int) = -1 := by omega
    have hk1 : (k : Int) < (D.length : Int) := by omega
    clear e1 h2 h3
    go_enter Tryz.func38, Tryz.ntmps38
    go_wp2_with fail
    refine HI.out.mono ?_
    rintro e w1 ⟨rfl, hb⟩
    have HR1 := hid (HR.out.below hb)
    clear hb
    go_wp2_with fail
    go_loopw [5, 6] (fun a b wr => ∃ (j : Nat), a = .int .i64 ((kpL P (D.take j)).length : Int) ∧ b = .int .i64 (j : Int) ∧ j ≤ D.length ∧ (kpL P (D.take j)).length < j ∧ Hid (Mw w0 wr g (kpL P (D.take j) ++ D.drop (kpL P (D.take j)).length))) (fun _ b _ => D.length - (intOf b).toNat)
    case atStart =>
      have hl : (D.take k).length = k := by simp; omega
      exact ⟨k + 1, by rw [HF.out, hl], by go_num, by omega, by rw [HF.out, hl]; omega, hid (by rw [HF.out, hl, List.take_append_drop]; exact HR1.out)⟩
    case round =>
      obtain ⟨j, rfl, rfl, hjD, hEj, HRV⟩ := hrel
      have HAT := hid (show ∀ i, (kpL P (D.take j)).length ≤ i → (kpL P (D.take j) ++ D.drop (kpL P (D.take j)).length)[i]? = D[i]? from fun i hi => by rw [List.getElem?_append_right hi, List.getElem?_drop]; congr 1; omega)
      by_cases hj : j < D.length
      · have g1 : (j : Int) < (D.length : Int) := by omega
        have HT := hid (kpL_take (P := P) hj)
        obtain ⟨y0, y1⟩ := HRV.out.at (j := j) (r := D[j]) (by rw [HAT.out j (by omega)]; exact List.getElem?_eq_getElem hj)
        have HKX := hid (fun W (hW : Below w0.heap.size w0 W) => (show Calls Tryz.prog K (#[.agg #[.string D[j].1, .string D[j].2]] ++ cb) W fun e w' => e = .returned (.bool (P D[j])) ∧ Below W.heap.size W w' from HRK.out D[j] W hW))
        generalize D[j] = x at *
        generalize hE : kpL P (D.take j) = E at *
        obtain ⟨x1, x2⟩ := x
        have HBA := hid ((Below.refl wr.heap.size wr).alloc (Nat.le_refl _) (.cells #[.string x1, .string x2] 45))
        have HRA := hid (HRV.out.below HBA.out)
        have HP := hid (HKX.out _ HRA.out.bl)
        cases hbad : P (x1, x2)
        · rw [hbad] at HP HT
          have HT2 := hid (show kpL P (D.take (j + 1)) = E ++ [(x1, x2)] from HT.out)
          clear hbad
          go_wp2_with fail
          refine HP.out.mono ?_
          rintro e w2 ⟨rfl, hb⟩
          have HR2 := hid (HRA.out.below hb)
          have d0 : w2.cell? ⟨wr.heap.size, 0, none⟩ = some (.string x1) := cell_below hb (by simp)
          have d1 : w2.cell? ⟨wr.heap.size, 1, none⟩ = some (.string x2) := cell_below hb (by simp)
          have hfz := HR2.out.fz
          have e1 : (0 : Int) ≤ (E.length : Int) := by omega
          have e2 : (E.length : Int) < (D.length : Int) := by omega
          have hEl : E.length < (E ++ D.drop E.length).length := by simp; omega
          obtain ⟨z0, z1⟩ := HR2.out.at (j := E.length) (r := (E ++ D.drop E.length)[E.length]) (List.getElem?_eq_getElem hEl)
          have HW4 := hid (show Mw w0 ((w2.setCell ⟨g, E.length * 2, none⟩ (.string x1)).setCell ⟨g, E.length * 2 + 1, none⟩ (.string x2)) g ((E ++ [((x1, x2) : Bm)]) ++ D.drop (E ++ [((x1, x2) : Bm)]).length) by
            have h := HR2.out.setAt E.length hEl (x1, x2)
            have e : (E ++ D.drop E.length).set E.length (x1, x2) = (E ++ [((x1, x2) : Bm)]) ++ D.drop (E ++ [((x1, x2) : Bm)]).length := by
              rw [List.set_append_right _ _ (Nat.le_refl _), Nat.sub_self, List.drop_eq_getElem_cons (show E.length < D.length by omega), List.set_cons_zero, List.length_append]
              simp
            rw [e] at h
            exact h)
          clear hb y0 y1
          go_wp2_with fail
          go_roundw
          case rel =>
            repeat apply Exists.intro
            refine ⟨?r, rfl⟩
            exact ⟨j + 1, by rw [HT2.out]; first | (simp; done) | (rw [List.length_append]; go_num), by go_num, by omega, by rw [HT2.out]; simp; omega, hid (by rw [HT2.out]; exact HW4.out)⟩
          case measure => simp [intOf]; omega
        · rw [hbad] at HP HT
          have HT2 := hid (show kpL P (D.take (j + 1)) = E from HT.out)
          clear hbad
          go_wp2_with fail
          refine HP.out.mono ?_
          rintro e w2 ⟨rfl, hb⟩
          have HR2 := hid (HRA.out.below hb)
          clear hb y0 y1
          go_wp2_with fail
          go_roundw
          case rel =>
            repeat apply Exists.intro
            refine ⟨?r2, rfl⟩
            exact ⟨j + 1, by rw [HT2.out], by go_num, by omega, by rw [HT2.out]; omega, hid (by rw [HT2.out]; exact HR2.out)⟩
          case measure => simp [intOf]; omega
      · obtain rfl : j = D.length := by omega
        have g2 : ¬ (D.length : Int) < (D.length : Int) := by omega
        rw [List.take_length] at hEj HRV HAT ⊢
        generalize hE : kpL P D = E at *
        have hRl : (E ++ D.drop E.length).length = D.length := by simp; omega
        obtain ⟨zs, hcl⟩ := run_clear_mw HRV.out E.length (by omega)
        rw [hRl] at hcl
        have HRE := hid (show Mw w0 (wr.setCells g (E.length * 2) zs) g E by
          have := HRV.out.cleared E.length (by omega) zs
          rw [List.take_left' rfl] at this
          exact this)
        have c1 : (E.length : Int) ≤ (D.length : Int) := by omega
        have c2 : (E.length : Int) < (cap : Int) := by omega
        have c3 : (E.length : Int) ≤ (cap : Int) := by omega
        have c4 : (0 : Int) ≤ (E.length : Int) := by omega
        have c5 : E.length < cap := by omega
        have c6 : (D.length : Int) ≤ (cap : Int) := by omega
        go_wp2_with fail
        go_ret
        exact ⟨rfl, HRE.out⟩
set_option maxHeartbeats 1000000 in
theorem delP_nil (K : Nat) (cb : Array Value) (a : Option Addr) (c : Nat) (W : World) : Calls Tryz.prog 38 #[.slice a 0 c, .func (.func K) #[] cb] W fun e w' => e = .returned (.slice a 0 c) ∧ Below W.heap.size W w' := by
  have HI := hid (idxM_none K cb a c W)
  go_enter Tryz.func38, Tryz.ntmps38
  go_wp2_with fail
  refine HI.out.mono ?_
  rintro e w1 ⟨rfl, hb⟩
  have HB := hid hb
  clear hb
  go_wp2_with fail
  go_ret
  exact ⟨rfl, HB.out⟩
/-- slices.DeleteFunc of a row that a call owns. -/
theorem delP_mr (K : Nat) (cb : Array Value) (P : Bm → Bool) (w0 w : World) (v : Value) (D : List Bm) (eg : ∀ args w, (callFunc K args).run Tryz.prog w = .ok (.enter K args) w) (h12 : D.length ≤ 1000000) (hR : Mr w0 w v D)
    (hK : ∀ (x : Bm) W, Below w0.heap.size w0 W → Calls Tryz.prog K (#[.agg #[.string x.1, .string x.2]] ++ cb) W fun e w' => e = .returned (.bool (P x)) ∧ Below W.heap.size W w') :
    Calls Tryz.prog 38 #[v, .func (.func K) #[] cb] w fun e w' => ∃ a c, e = .returned (.slice a (kpL P D).length c) ∧ Mr w0 w' (.slice a (kpL P D).length c) (kpL P D) := by
  obtain ⟨hb, a, cap, rfl, hcap, hk⟩ := hR
  rcases hk with ⟨rfl, h0⟩ | ⟨g, rfl, hM⟩
  · refine (delP_nil K cb a cap w).mono ?_
    rintro e w1 ⟨rfl, h1⟩
    exact ⟨a, cap, rfl, hb.trans (h1.mono hb.size), a, cap, rfl, Nat.zero_le _, Or.inl ⟨rfl, h0⟩⟩
  · refine (delP_mw K cb P w0 w g cap D eg h12 hcap hM hK).mono ?_
    rintro e w1 ⟨rfl, h1⟩
    exact ⟨_, cap, rfl, h1.bl, _, cap, rfl, Nat.le_trans (kpL_len P D) hcap, Or.inr ⟨g, rfl, h1⟩⟩
end Ve
end Go.Proofs.YtacggkigfjpfnaaGreatDoor

/-
  What slices.Clone and slices.Equal at modules answer; nothing old in memory turns.
-/
namespace Go.Proofs.YtacggkigfjpfnaaGreatDoor
open Go.RowKit
namespace Ve

set_option maxHeartbeats 1000000 in
theorem cloneM_some (b o c : Nat) (L : List Bm) (w : World) (hn : L.length ≤ 1000000) (hc : ∀ j u, (flatM L)[j]? = some u → w.cell? ⟨b, o + j, none⟩ = some u) :
    Calls Tryz.prog 22 #[.slice (some ⟨b, o, none⟩) L.length c] w fun e w' => ∃ v, e = .returned v ∧ w'.ownsRow w.heap.size 45 2 v L.length (flatM L) ∧ Below w.heap.size w w' := by
  obtain ⟨i0, hi, hz0, hz1, hz2⟩ := info_parts infoMod
  have q22 : ∀ (w : World) (a : Option Addr) (n c n' c' : Nat), (binOp .eql 23 (.slice a n c) (.slice none n' c')).run Tryz.prog w = .ok (.bool a.isNone) w := fun w a n c n' c' => Lib.run_eql_slice_nil w _ _ a n c n' c' Tryz.underlying23
  have HC := hid hc
  clear hc
  go_enter Tryz.func22, Tryz.ntmps22
  go_wp2_with (at_builtin; refine wpList_append_own _ rfl _ _ 23 rfl w.heap.size 45 i0 _ 2 32 Tryz.underlying23 hi hz0 hz1 hz2 rfl (by decide) _ _ _ rfl (World.ownsRow_made w #[] 0 (Nat.le_refl _) (Nat.zero_le _) (by simp)) ⟨b, o, none⟩ L.length c (flatM L) rfl ?qc1 ?qc2 ?qc3 ?qc4 ?qc5 ?qc6 ?_)
  case qc1 => exact flatM_len L
  case qc2 =>
    intro j u hj
    rw [Addr.add_lit]
    exact Lib.cell?_alloc_some _ (HC.out j u hj)
  case qc3 => exact flat_one L
  case qc4 => rw [Nat.zero_add]; unfold maxLen; omega
  case qc5 => rw [Nat.zero_add]; omega
  case qc6 => simp
  intro v' w1 hown hgrow hnil
  obtain ⟨va, vn, vc, rfl⟩ := own_sl hown
  have HO := hid hown
  have HG := hid hgrow
  clear hown hgrow hnil
  go_wp2_with fail
  go_ret
  refine ⟨_, rfl, by simpa using HO.out, ?_⟩
  exact ((Below.refl _ w).alloc (Nat.le_refl _) _).grown HG.out (by simp) (by intro k hk; simp [Value.ownBlock] at hk; omega)
theorem cloneM_nil (w : World) : Calls Tryz.prog 22 #[.slice none 0 0] w fun e w' => e = .returned (.slice none 0 0) ∧ w' = w := by
  have q22 : ∀ (w : World) (a : Option Addr) (n c n' c' : Nat), (binOp .eql 23 (.slice a n c) (.slice none n' c')).run Tryz.prog w = .ok (.bool a.isNone) w := fun w a n c n' c' => Lib.run_eql_slice_nil w _ _ a n c n' c' Tryz.underlying23
  go_enter Tryz.func22, Tryz.ntmps22
  go_wp2_with fail
  go_ret
  exact ⟨rfl, rfl⟩
set_option maxHeartbeats 1000000 in
theorem cloneM_none (a : Addr) (c : Nat) (w : World) : Calls Tryz.prog 22 #[.slice (some a) 0 c] w fun e w' => ∃ b d, e = .returned (.slice (some b) 0 d) ∧ Below w.heap.size w w' := by
  have q22 : ∀ (w : World) (a : Option Addr) (n c n' c' : Nat), (binOp .eql 23 (.slice a n c) (.slice none n' c')).run Tryz.prog w = .ok (.bool a.isNone) w := fun w a n c n' c' => Lib.run_eql_slice_nil w _ _ a n c n' c' Tryz.underlying23
  have hrun : ∀ ty b d W, (Builtin.append_ #[23, 23] ty #[.slice (some b) 0 d, .slice (some a) 0 c]).run Tryz.prog W = .ok (.slice (some b) 0 d) W := fun ty b d W => by
    obtain ⟨i0, hi, hz0, hz1, hz2⟩ := info_parts infoMod
    have hl : (loadCells a 0).run Tryz.prog W = .ok #[] W := by simpa using run_loadCells_list (P := Tryz.prog) W a [] (by simp)
    simp [Builtin.append_, run_underlying Tryz.underlying23, Builtin.lenOf, Builtin.firstCells, Go.sizeOf, typeInfo, hi, hl, storeCells]
  have HB0 := hid ((Below.refl w.heap.size w).alloc (Nat.le_refl _) (.cells #[] 45))
  go_enter Tryz.func22, Tryz.ntmps22
  go_wp2_with (at_builtin; refine Lib.wpList_append_run _ rfl _ _ _ _ rfl _ _ rfl rfl _ _ (hrun _ _ _ _) ?_)
  go_ret
  exact ⟨_, _, rfl, HB0.out⟩
/-- slices.Clone of a row of modules: a row of the call's own. -/
theorem cloneM_any (v : Value) (L : List Bm) (w : World) (hn : L.length ≤ 1000000) (hv : MsAt w v L) (hem : Em v L) :
    Calls Tryz.prog 22 #[v] w fun e w' => ∃ a c, e = .returned (.slice a L.length c) ∧ Mr w w' (.slice a L.length c) L := by
  obtain ⟨a, c, rfl, _, h⟩ := hv
  have hz : L = [] → _ := hem a c rfl
  cases L with
  | nil =>
    rcases hz rfl with hz | ⟨a', hz⟩
    · show Calls Tryz.prog 22 #[.slice a 0 c] w _
      rw [hz]
      refine (cloneM_nil w).mono ?_
      rintro e w' ⟨rfl, rfl⟩
      exact ⟨_, _, rfl, Below.refl _ _, _, _, rfl, Nat.le_refl _, Or.inl ⟨rfl, fun _ => rfl⟩⟩
    · show Calls Tryz.prog 22 #[.slice a 0 c] w _
      rw [hz]
      refine (cloneM_none a' c w).mono ?_
      rintro e w' ⟨b, d, rfl, hb⟩
      exact ⟨_, _, rfl, hb, _, _, rfl, Nat.zero_le _, Or.inl ⟨rfl, fun h => by cases h⟩⟩
  | cons x r =>
    obtain ⟨b, o, rfl, h2⟩ := h (by simp)
    refine (cloneM_some b o c (x :: r) w hn (ms_flat h2)).mono ?_
    rintro e w' ⟨u, rfl, ho, hb⟩
    have hm := mr_own ho hb
    obtain ⟨a, c, hu⟩ := hm.sl
    subst hu
    exact ⟨a, c, rfl, hm⟩
set_option maxHeartbeats 2000000 in
theorem eqQ_len (a a' : Option Addr) (n n' c c' : Nat) (w : World) (h : n ≠ n') : Calls Tryz.prog 37 #[.slice a n c, .slice a' n' c'] w fun e w' => e = .returned (.bool false) ∧ Below w.heap.size w w' := by
  have h1 : ¬ (n : Int) = (n' : Int) := by omega
  have h2 : ((n : Int) == (n' : Int)) = false := by simp; omega
  go_enter Tryz.func37, Tryz.ntmps37
  go_wp2_with fail
  go_ret
  exact ⟨rfl, Below.refl _ _⟩
theorem eqQ_none (a a' : Option Addr) (c c' : Nat) (w : World) : Calls Tryz.prog 37 #[.slice a 0 c, .slice a' 0 c'] w fun e w' => e = .returned (.bool true) ∧ Below w.heap.size w w' := by
  go_enter Tryz.func37, Tryz.ntmps37
  go_wp2_with fail
  go_loopw [13] (fun i wr => i = .int .i64 0 ∧ wr = w) (fun i _ => 0)
  case atStart => exact ⟨rfl, rfl⟩
  case round =>
    obtain ⟨rfl, rfl⟩ := hrel
    go_wp2_with fail
    go_ret
    exact ⟨rfl, Below.refl _ _⟩
set_option maxHeartbeats 2000000 in
theorem eqQ_some (L M : List Bm) (b o c b' o' c' : Nat) (w : World) (hn : L.length ≤ 1000000) (hl : M.length = L.length)
    (hc : ∀ j (h : j < L.length), w.cell? ⟨b, o + j * 2, none⟩ = some (.string L[j].1) ∧ w.cell? ⟨b, o + j * 2 + 1, none⟩ = some (.string L[j].2))
    (hd : ∀ j (h : j < M.length), w.cell? ⟨b', o' + j * 2, none⟩ = some (.string M[j].1) ∧ w.cell? ⟨b', o' + j * 2 + 1, none⟩ = some (.string M[j].2)) :
    Calls Tryz.prog 37 #[.slice (some ⟨b, o, none⟩) L.length c, .slice (some ⟨b', o', none⟩) L.length c'] w fun e w' => e = .returned (.bool (decide (L = M))) ∧ Below w.heap.size w w' := by
  have HC := hid hc
  have HD := hid hd
  have hgd := modGuard
  have HX := hid (show (∀ j (h : j < L.length) (h' : j < M.length), L[j] = M[j]) → decide (L = M) = true from fun h => decide_eq_true (List.ext_getElem hl.symm (fun j h1 h2 => h j h1 h2)))
  have HY := hid (show ∀ j (h : j < L.length) (h' : j < M.length), L[j] ≠ M[j] → decide (L = M) = false from fun j h h' hne => decide_eq_false (fun e => hne (by subst e; rfl)))
  generalize decide (L = M) = z at *
  clear hc hd
  go_enter Tryz.func37, Tryz.ntmps37
  go_wp2_with fail
  go_loopw [13] (fun i wr => ∃ k : Nat, k ≤ L.length ∧ i = .int .i64 k ∧ Hid (∀ j (h : j < L.length) (h' : j < M.length), j < k → L[j] = M[j]) ∧ Hid (Below w.heap.size w wr)) (fun i _ => L.length - (intOf i).toNat)
  case atStart => exact ⟨0, Nat.zero_le _, rfl, hid (fun j _ _ hj => absurd hj (Nat.not_lt_zero _)), hid (Below.refl _ _)⟩
  case round =>
    obtain ⟨k, hk, rfl, HE, HB⟩ := hrel
    by_cases hlt : k < L.length
    · have hlm : k < M.length := by omega
      have hx := cell_below HB.out (HC.out k hlt).1
      have hy := cell_below HB.out (HC.out k hlt).2
      have hx' := cell_below HB.out (HD.out k hlm).1
      have hy' := cell_below HB.out (HD.out k hlm).2
      have hne := fun W => modNeq L[k].1 L[k].2 M[k].1 M[k].2 W
      have hkI : (k : Int) < (L.length : Int) := by omega
      have HLT := hid hlt
      have HN := hid (show L[k] = M[k] → ∀ j (h : j < L.length) (h' : j < M.length), j < k + 1 → L[j] = M[j] from fun h0 j h1 h2 h3 => by
        rcases Nat.lt_or_ge j k with h | h
        · exact HE.out j h1 h2 h
        · have : j = k := by omega
          subst this; exact h0)
      have HYK := hid (HY.out k hlt hlm)
      generalize L[k] = x at *
      generalize M[k] = y at *
      obtain ⟨x1, x2⟩ := x
      obtain ⟨y1, y2⟩ := y
      simp only at hx hy hx' hy' hne
      clear hlt hlm
      by_cases he : x1 = y1 ∧ x2 = y2
      · rw [decide_eq_true he] at hne
        have HN2 := hid (HN.out (Prod.ext he.1 he.2))
        clear he HN
        go_wp2_with fail
        go_quiet (fail)
        go_wp2_with fail
        go_roundw
        case rel => first | exact ⟨k + 1, HLT.out, nr_idx k, HN2, hid (below_drawn_of HB.out _)⟩ | exact ⟨k + 1, HLT.out, nx_idx HLT.out hn, HN2, hid (below_drawn_of HB.out _)⟩
        case measure => first | exact nr_meas HLT.out | exact nx_meas HLT.out hn
      · rw [decide_eq_false he] at hne
        have HZ := hid (HYK.out (fun e => he (by injection e with e1 e2; exact ⟨e1, e2⟩)))
        clear he HN
        go_wp2_with fail
        go_quiet (fail)
        go_wp2_with fail
        go_ret
        exact ⟨by rw [HZ.out]; rfl, below_drawn_of HB.out _⟩
    · have hkI : ¬ (k : Int) < (L.length : Int) := by omega
      have HZ := hid (HX.out (fun j h h' => HE.out j h h' (by omega)))
      go_wp2_with fail
      go_ret
      exact ⟨by rw [HZ.out]; rfl, HB.out⟩
/-- slices.Equal of any two rows of modules. -/
theorem eqQ_any (L M : List Bm) (v u : Value) (w : World) (hn : L.length ≤ 1000000) (hv : MsAt w v L) (hu : MsAt w u M) : Calls Tryz.prog 37 #[v, u] w fun e w' => e = .returned (.bool (decide (L = M))) ∧ Below w.heap.size w w' := by
  obtain ⟨a, c, rfl, _, h⟩ := hv
  obtain ⟨a', c', rfl, _, h'⟩ := hu
  by_cases hl : M.length = L.length
  · cases L with
    | nil =>
      have : M = [] := List.length_eq_zero_iff.1 hl
      subst this
      exact eqQ_none a a' c c' w
    | cons x r =>
      obtain ⟨b, o, rfl, h2⟩ := h (by simp)
      obtain ⟨b', o', rfl, h3⟩ := h' (fun e => by rw [e] at hl; simp at hl)
      rw [hl]
      exact eqQ_some (x :: r) M b o c b' o' c' w hn hl h2 h3
  · rw [decide_eq_false (fun e => hl (by rw [e]))]
    exact eqQ_len a a' _ _ c c' w (fun e => hl e.symm)
end Ve
end Go.Proofs.YtacggkigfjpfnaaGreatDoor

/-
  What is refused, what is reached, plain: as one function each; two indexes of the same modules.
-/
namespace Go.Proofs.YtacggkigfjpfnaaGreatDoor
open Go.RowKit Go.Maps
namespace Ve

/-- Two indexes of the same modules. -/
theorem isM_same {Q Q' : List Raw} (h : Q.map (fun r => r.1) = Q'.map (fun r => r.1)) (m : Bm) : idxOf (isM m) Q = idxOf (isM m) Q' := by
  have hl : Q.length = Q'.length := by have := congrArg List.length h; simpa using this
  have hf : idxE (isM m) Q = idxE (isM m) Q' := funext fun i => by
    have hi := congrArg (fun X : List Bm => X[i]?) h
    simp only [List.getElem?_map] at hi
    unfold idxE
    cases h1 : Q[i]? with
    | none =>
      rw [h1] at hi
      cases h2 : Q'[i]? with
      | none => rfl
      | some r => rw [h2] at hi; simp at hi
    | some r =>
      rw [h1] at hi
      cases h2 : Q'[i]? with
      | none => rw [h2] at hi; simp at hi
      | some r' =>
        rw [h2] at hi
        have : r.1 = r'.1 := by simpa using hi
        show (if isM m r then 1 else 0) = if isM m r' then 1 else 0
        rw [show isM m r = isM m r' by unfold isM; rw [this]]
  unfold idxOf
  rw [hf, hl]
theorem reqQ_same {Q Q' : List Raw} {L : List Ent} (h : Q.map (fun r => r.1) = Q'.map (fun r => r.1)) : reqQ Q L = reqQ Q' L := funext fun m => by
  unfold reqQ
  rw [isM_same h m]
theorem nonE_same {Q Q' : List Raw} (h : Q.map (fun r => r.1) = Q'.map (fun r => r.1)) (R : List Bm) : nonE Q R = nonE Q' R := funext fun i => by
  unfold nonE nonW
  split
  · rfl
  · rw [isM_same h]
theorem chk_same {Q Q' : List Raw} {L : List Ent} (h : Q.map (fun r => r.1) = Q'.map (fun r => r.1)) : chk Q L = chk Q' L := by
  have hr : reqE2 Q L = reqE2 Q' L := funext fun i => by
    unfold reqE2
    split
    · rfl
    · rw [nonE_same h]
  unfold chk
  rw [hr]
theorem chkG_same {Q Q' : List Raw} {L : List Ent} (h : Q.map (fun r => r.1) = Q'.map (fun r => r.1)) (roots : List Bm) : chkG Q L roots = chkG Q' L roots := by
  unfold chkG
  rw [chk_same h, nonE_same h]
theorem ms_nil0 (w : World) : MsAt w (.slice none 0 0) [] := ⟨none, 0, rfl, Nat.le_refl _, fun h => absurd rfl h⟩
/-- What is refused. -/
def rF (Q : List Raw) (L : List Ent) (roots : List Bm) : Nat × Option Nat := if (chkG Q L roots).1 = 0 then (0, none) else chkG Q L roots
theorem rF_good {Q : List Raw} {L : List Ent} {roots : List Bm} (h : (chkG Q L roots).1 = 0) : rF Q L roots = (0, none) := if_pos h
theorem rF_bad {Q : List Raw} {L : List Ent} {roots : List Bm} (h : ¬ (chkG Q L roots).1 = 0) : rF Q L roots = chkG Q L roots := if_neg h
theorem rF_same {Q Q' : List Raw} {L : List Ent} (h : Q.map (fun r => r.1) = Q'.map (fun r => r.1)) (roots : List Bm) : rF Q L roots = rF Q' L roots := by unfold rF; rw [chkG_same h]
open Classical in
/-- What is reached. -/
noncomputable def rX (Q : List Raw) (L : List Ent) (roots : List Bm) : List Bm := if (chkG Q L roots).1 = 0 then (univ L).filter (fun m => decide (Rch (reqQ Q L) roots m)) else []
theorem rX_same {Q Q' : List Raw} {L : List Ent} (h : Q.map (fun r => r.1) = Q'.map (fun r => r.1)) (roots : List Bm) : rX Q L roots = rX Q' L roots := by unfold rX; rw [chkG_same h, reqQ_same h]
theorem rX_bad {Q : List Raw} {L : List Ent} {roots : List Bm} (h : ¬ (chkG Q L roots).1 = 0) : rX Q L roots = [] := if_neg h
theorem rX_go {w : World} {v : Value} {Q : List Raw} {L : List Ent} {roots : List Bm} {T : By} (I : Ixs w v Q L) (h : (chkG Q L roots).1 = 0) (hT : Came (reqQ Q L) (univ L) roots T) : goM T Q = rX Q L roots := by
  unfold rX
  rw [if_pos h, ← univ_eq I]
  unfold goM goQ
  rw [List.filter_map]
  congr 1
  apply List.filter_congr
  intro r _
  show cameB T r.1 = _
  simp only [Function.comp]
  by_cases hr : Rch (reqQ Q L) roots r.1
  · rw [(hT.cameB _).2 hr]; simp [hr]
  · cases hc : cameB T r.1
    · simp [hr]
    · exact absurd ((hT.cameB _).1 hc) hr
theorem rX_len {Q : List Raw} {L : List Ent} {roots : List Bm} : (rX Q L roots).length ≤ L.length := by
  unfold rX
  split
  · refine Nat.le_trans (List.length_filter_le _ _) ?_
    rw [univ_len]; exact Nat.le_refl _
  · simp
theorem rX_in {Q : List Raw} {L : List Ent} {roots : List Bm} {m : Bm} (h : m ∈ rX Q L roots) : (chkG Q L roots).1 = 0 ∧ m ∈ univ L := by
  unfold rX at h
  by_cases hc : (chkG Q L roots).1 = 0
  · rw [if_pos hc] at h
    exact ⟨hc, (List.mem_filter.1 h).1⟩
  · rw [if_neg hc] at h; simp at h
end Ve
end Go.Proofs.YtacggkigfjpfnaaGreatDoor

/-
  What mvs.Build answers; the closed fact of the statements (built).
-/
namespace Go.Proofs.YtacggkigfjpfnaaGreatDoor
open Go.RowKit Go.Maps
namespace Ve

theorem goM_sub {w : World} {v : Value} {Q : List Raw} {L : List Ent} (I : Ixs w v Q L) {T : By} {m : Bm} (h : m ∈ goM T Q) : m ∈ univ L := by
  rw [← univ_eq I]
  unfold goM goQ at h
  obtain ⟨r, hr, e⟩ := List.mem_map.1 h
  exact List.mem_map.2 ⟨r, (List.mem_filter.1 hr).1, e⟩
theorem univ_szJ {L : List Ent} (sh : ∀ e, e ∈ L → ShE e) {m : Bm} (h : m ∈ univ L) : m.1.size < 999999 ∧ m.2.size < 999999 := by
  obtain ⟨e, he, rfl⟩ := List.mem_map.1 h
  exact ⟨(sh e he).p, (sh e he).v⟩
theorem goM_lenJ {w : World} {v : Value} {Q : List Raw} {L : List Ent} (I : Ixs w v Q L) (T : By) : (goM T Q).length ≤ L.length := by
  unfold goM goQ
  rw [List.length_map, ← I.ln]
  exact List.length_filter_le _ _
theorem em_none : Em (.slice none 0 0) [] := fun a c e _ => by
  injection e with e1 e2 e3
  subst e1 e3
  exact Or.inl rfl
theorem ms_none (w : World) : MsAt w (.slice none 0 0) [] := ⟨none, 0, rfl, Nat.le_refl _, fun h => absurd rfl h⟩
set_option maxRecDepth 100000 in
set_option maxHeartbeats 2000000 in
theorem build_bad (Q : List Raw) (L : List Ent) (roots : List Bm) (v rv : Value) (A : Nat → Addr) (m : Int) (w : World) (hn : L.length ≤ 1000) (hrn : roots.length ≤ 1000000) (sh : ∀ e, e ∈ L → ShE e) (S : Te w A m) (I : Ixs w v Q L) (hr : MsAt w rv roots) (h0 : (chkG Q L roots).1 ≠ 0) :
    Calls Tryz.prog 9 #[v, rv] w fun e w' => ∃ T a, e = .returned (.tuple #[.slice none 0 0, .iface T (.pointer (some a))]) ∧ ErrAt w' A (.iface T (.pointer (some a))) (chkG Q L roots).1 (chkG Q L roots).2 ∧ Below w.heap.size w w' := by
  have HCK := hid (reach_bad Q L roots v rv A m w hn hrn sh S I hr h0)
  obtain ⟨a, c, hv, -⟩ := id I.es
  subst hv
  obtain ⟨ra, rc, hrv, -⟩ := id hr
  subst hrv
  clear S I hr sh h0
  go_enter Tryz.func9, Tryz.ntmps9
  go_wp2_with fail
  refine HCK.out.mono ?_
  rintro e w1 ⟨T, xa, rfl, he, hb⟩
  have HB := hid hb
  have HE := hid he
  clear hb he HCK
  go_wp2_with fail
  go_ret2
  exact ⟨_, _, rfl, HE.out, HB.out⟩
/-- What is built: of what is reached, of each path the greatest. -/
structure Bt (Q : List Raw) (L : List Ent) (roots E : List Bm) : Prop where
  c : ∃ T, Came (reqQ Q L) (univ L) roots T ∧ Jn (goM T Q) E ∧ E.length ≤ (goM T Q).length
set_option maxRecDepth 100000 in
set_option maxHeartbeats 2000000 in
theorem build_good (Q : List Raw) (L : List Ent) (roots : List Bm) (v rv : Value) (A : Nat → Addr) (m : Int) (w : World) (hn : L.length ≤ 1000) (hrn : roots.length ≤ 1000000) (sh : ∀ e, e ∈ L → ShE e) (S : Te w A m) (I : Ixs w v Q L) (hr : MsAt w rv roots) (h0 : (chkG Q L roots).1 = 0) :
    Calls Tryz.prog 9 #[v, rv] w fun e w' => ∃ u E, e = .returned (.tuple #[u, .nilIface]) ∧ Bt Q L roots E ∧ Mr w w' u E := by
  have HRE := hid (reach_good Q L roots v rv A m w hn hrn sh S I hr h0)
  have hl : L.length ≤ 100 := by
    by_cases hc : (chk Q L).1 = 0
    · exact (chk_each0 hc).1
    · rw [chkG_bad hc] at h0; exact absurd h0 hc
  have HS := hid S
  have HI := hid I
  have HSH := hid sh
  obtain ⟨a, c, hv, -⟩ := id I.es
  subst hv
  obtain ⟨ra, rc, hrv, -⟩ := id hr
  subst hrv
  clear S I hr sh h0
  go_enter Tryz.func9, Tryz.ntmps9
  go_wp2_with fail
  refine HRE.out.mono ?_
  rintro e w1 ⟨u, rfl, T, hcm, hown, hb⟩
  have HCM := hid hcm
  have HB := hid hb
  have hgl := goM_lenJ HI.out T
  have HM := hid (mr_own hown hb)
  have HJ := hid (join_mods (goM T Q) [] u (.slice none 0 0) A m w1 HM.out.ms (ms_none w1) HM.out.em em_none (by omega) (by simp) (fun r hr => univ_szJ HSH.out (goM_sub HI.out (by simpa using hr))) (HS.out.below hb))
  rw [List.append_nil] at HJ
  obtain ⟨ua, uc, hu⟩ := HM.out.sl
  subst hu
  clear hcm hown hb HRE HM
  go_wp2_with fail
  refine HJ.out.mono ?_
  rintro e w2 ⟨x, E, rfl, hel, hj, hm⟩
  have HMX := hid (hm.base HB.out)
  have HBT := hid (show Bt Q L roots E from ⟨T, HCM.out, hj, hel⟩)
  obtain ⟨xa, xc, hx⟩ := hm.sl
  subst hx
  clear hel hj hm HJ
  go_wp2_with fail
  go_ret2
  exact ⟨_, E, rfl, HBT.out, HMX.out⟩
theorem sm_chkG2 (g : Nat) : (chkG (smQ g) smL [ma0, ma1]).1 = 0 := by
  rw [chkG_ok (by rw [sm_chk])]
  show codeE (nonE (smQ g) [ma0, ma1]) 2 = 0
  kernel_rfl
theorem sm_go2 {g : Nat} {T : By} (h : Came (reqQ (smQ g) smL) (univ smL) [ma0, ma1] T) : goM T (smQ g) = [ma0, ma1, mb0] := by
  have c0 : cameB T ma0 = true := (h.cameB _).2 (.root (by simp))
  have c1 : cameB T ma1 = true := (h.cameB _).2 (.root (by simp))
  have cb : cameB T mb0 = true := (h.cameB _).2 (.step (.root (show ma1 ∈ [ma0, ma1] by simp)) (by rw [sm_r1]; simp))
  unfold goM goQ smQ
  simp [c0, c1, cb]
theorem sm_jn : Jn [ma0, ma1, mb0] [ma1, mb0] := by
  have e0 : decide (ordV (vb ma0) (vb ma1) ≤ 0) = true := by kernel_rfl
  have e1 : decide (ordV (vb ma1) (vb ma1) ≤ 0) = true := by kernel_rfl
  have e2 : decide (ordV (vb mb0) (vb mb0) ≤ 0) = true := by kernel_rfl
  have m1 : mErr ma1 = 0 := by kernel_rfl
  have m2 : mErr mb0 = 0 := by kernel_rfl
  have l1 : lt ma1.1 mb0.1 = true := by kernel_rfl
  refine ⟨?_, fun e he => ?_, fun x hx _ => ?_⟩
  · refine List.pairwise_cons.2 ⟨fun b hb => ?_, List.pairwise_singleton _ _⟩
    rw [List.mem_singleton.1 hb]; exact l1
  · rcases List.mem_cons.1 he with rfl | he
    · exact ⟨by simp, m1⟩
    · rw [List.mem_singleton.1 he]; exact ⟨by simp, m2⟩
  · rcases List.mem_cons.1 hx with rfl | hx
    · exact ⟨ma1, by simp, rfl, of_decide_eq_true e0⟩
    · rcases List.mem_cons.1 hx with rfl | hx
      · exact ⟨ma1, by simp, rfl, of_decide_eq_true e1⟩
      · rw [List.mem_singleton.1 hx]
        exact ⟨mb0, by simp, rfl, of_decide_eq_true e2⟩
theorem sm_bt {g : Nat} {E : List Bm} (h : Bt (smQ g) smL [ma0, ma1] E) : E = [ma1, mb0] := by
  obtain ⟨T, h1, h2, _⟩ := h.c
  rw [sm_go2 h1] at h2
  exact h2.one sm_jn (fun _ _ => Iff.rfl)
end Ve
end Go.Proofs.YtacggkigfjpfnaaGreatDoor

/-
  What slices.Equal answers over modules; what mvs.IsSelection answers: do paths rise?
-/
namespace Go.Proofs.YtacggkigfjpfnaaGreatDoor
open Go.RowKit Go.Maps
namespace Ve

set_option maxHeartbeats 2000000 in
theorem eqS_len (a a' : Option Addr) (n n' c c' : Nat) (w : World) (h : n ≠ n') : Calls Tryz.prog 37 #[.slice a n c, .slice a' n' c'] w fun e w' => e = .returned (.bool false) ∧ Below w.heap.size w w' := by
  have h1 : ¬ (n : Int) = (n' : Int) := by omega
  have h2 : ((n : Int) == (n' : Int)) = false := by simp; omega
  go_enter Tryz.func37, Tryz.ntmps37
  go_wp2_with fail
  go_ret
  exact ⟨rfl, Below.refl _ _⟩
set_option maxHeartbeats 2000000 in
theorem eqS_some (L M : List Bm) (b o c b' o' c' : Nat) (w : World) (hn : L.length ≤ 1000000) (hl : M.length = L.length)
    (hc : ∀ j (h : j < L.length), w.cell? ⟨b, o + j * 2, none⟩ = some (.string L[j].1) ∧ w.cell? ⟨b, o + j * 2 + 1, none⟩ = some (.string L[j].2))
    (hd : ∀ j (h : j < M.length), w.cell? ⟨b', o' + j * 2, none⟩ = some (.string M[j].1) ∧ w.cell? ⟨b', o' + j * 2 + 1, none⟩ = some (.string M[j].2)) :
    Calls Tryz.prog 37 #[.slice (some ⟨b, o, none⟩) L.length c, .slice (some ⟨b', o', none⟩) L.length c'] w fun e w' => e = .returned (.bool (decide (L = M))) ∧ Below w.heap.size w w' := by
  have HC := hid hc
  have HD := hid hd
  have hgd := modGuard
  have HX := hid (show (∀ j (h : j < L.length) (h' : j < M.length), L[j] = M[j]) → decide (L = M) = true from fun h => decide_eq_true (List.ext_getElem hl.symm (fun j h1 h2 => h j h1 h2)))
  have HY := hid (show ∀ j (h : j < L.length) (h' : j < M.length), L[j] ≠ M[j] → decide (L = M) = false from fun j h h' hne => decide_eq_false (fun e => hne (by subst e; rfl)))
  generalize decide (L = M) = z at *
  clear hc hd
  go_enter Tryz.func37, Tryz.ntmps37
  go_wp2_with fail
  go_loopw [13] (fun i wr => ∃ k : Nat, k ≤ L.length ∧ i = .int .i64 k ∧ Hid (∀ j (h : j < L.length) (h' : j < M.length), j < k → L[j] = M[j]) ∧ Hid (Below w.heap.size w wr)) (fun i _ => L.length - (intOf i).toNat)
  case atStart => exact ⟨0, Nat.zero_le _, rfl, hid (fun j _ _ hj => absurd hj (Nat.not_lt_zero _)), hid (Below.refl _ _)⟩
  case round =>
    obtain ⟨k, hk, rfl, HE, HB⟩ := hrel
    by_cases hlt : k < L.length
    · have hlm : k < M.length := by omega
      have hx := cell_below HB.out (HC.out k hlt).1
      have hy := cell_below HB.out (HC.out k hlt).2
      have hx' := cell_below HB.out (HD.out k hlm).1
      have hy' := cell_below HB.out (HD.out k hlm).2
      have hne := fun W => modNeq L[k].1 L[k].2 M[k].1 M[k].2 W
      have hkI : (k : Int) < (L.length : Int) := by omega
      have HLT := hid hlt
      have HN := hid (show L[k] = M[k] → ∀ j (h : j < L.length) (h' : j < M.length), j < k + 1 → L[j] = M[j] from fun h0 j h1 h2 h3 => by
        rcases Nat.lt_or_ge j k with h | h
        · exact HE.out j h1 h2 h
        · have : j = k := by omega
          subst this; exact h0)
      have HYK := hid (HY.out k hlt hlm)
      generalize L[k] = x at *
      generalize M[k] = y at *
      obtain ⟨x1, x2⟩ := x
      obtain ⟨y1, y2⟩ := y
      simp only at hx hy hx' hy' hne
      clear hlt hlm
      by_cases he : x1 = y1 ∧ x2 = y2
      · rw [decide_eq_true he] at hne
        have HN2 := hid (HN.out (Prod.ext he.1 he.2))
        clear he HN
        go_wp2_with fail
        go_quiet (fail)
        go_wp2_with fail
        go_roundw
        case rel => first | exact ⟨k + 1, HLT.out, nr_idx k, HN2, hid (below_drawn_of HB.out _)⟩ | exact ⟨k + 1, HLT.out, nx_idx HLT.out hn, HN2, hid (below_drawn_of HB.out _)⟩
        case measure => first | exact nr_meas HLT.out | exact nx_meas HLT.out hn
      · rw [decide_eq_false he] at hne
        have HZ := hid (HYK.out (fun e => he (by injection e with e1 e2; exact ⟨e1, e2⟩)))
        clear he HN
        go_wp2_with fail
        go_quiet (fail)
        go_wp2_with fail
        go_ret
        exact ⟨by rw [HZ.out]; rfl, below_drawn_of HB.out _⟩
    · have hkI : ¬ (k : Int) < (L.length : Int) := by omega
      have HZ := hid (HX.out (fun j h h' => HE.out j h h' (by omega)))
      go_wp2_with fail
      go_ret
      exact ⟨by rw [HZ.out]; rfl, HB.out⟩
theorem eqS_none (a a' : Option Addr) (c c' : Nat) (w : World) : Calls Tryz.prog 37 #[.slice a 0 c, .slice a' 0 c'] w fun e w' => e = .returned (.bool true) ∧ Below w.heap.size w w' := by
  go_enter Tryz.func37, Tryz.ntmps37
  go_wp2_with fail
  go_loopw [13] (fun i wr => i = .int .i64 0 ∧ wr = w) (fun i _ => 0)
  case atStart => exact ⟨rfl, rfl⟩
  case round =>
    obtain ⟨rfl, rfl⟩ := hrel
    go_wp2_with fail
    go_ret
    exact ⟨rfl, Below.refl _ _⟩
theorem eqS_any (L M : List Bm) (v u : Value) (w : World) (hn : L.length ≤ 1000000) (hv : MsAt w v L) (hu : MsAt w u M) : Calls Tryz.prog 37 #[v, u] w fun e w' => e = .returned (.bool (decide (L = M))) ∧ Below w.heap.size w w' := by
  obtain ⟨a, c, rfl, _, h⟩ := hv
  obtain ⟨a', c', rfl, _, h'⟩ := hu
  by_cases hl : M.length = L.length
  · cases L with
    | nil =>
      have : M = [] := List.length_eq_zero_iff.1 hl
      subst this
      exact eqS_none a a' c c' w
    | cons x r =>
      obtain ⟨b, o, rfl, h2⟩ := h (by simp)
      obtain ⟨b', o', rfl, h3⟩ := h' (fun e => by rw [e] at hl; simp at hl)
      rw [hl]
      exact eqS_some (x :: r) M b o c b' o' c' w hn hl h2 h3
  · rw [decide_eq_false (fun e => hl (by rw [e]))]
    exact eqS_len a a' _ _ c c' w (fun e => hl e.symm)
/-- Do paths rise? -/
def risB2 : List Bm → Bool
  | [] => true
  | [_] => true
  | a :: b :: r => lt a.1 b.1 && risB2 (b :: r)
theorem risB2_iff : ∀ {L : List Bm}, risB2 L = true ↔ rising L
  | [] => ⟨fun _ => List.Pairwise.nil, fun _ => rfl⟩
  | [a] => ⟨fun _ => List.pairwise_singleton _ _, fun _ => rfl⟩
  | a :: b :: r => by
    unfold risB2
    rw [Bool.and_eq_true, risB2_iff]
    constructor
    · rintro ⟨h1, h2⟩
      refine List.pairwise_cons.2 ⟨fun c hc => ?_, h2⟩
      rcases List.mem_cons.1 hc with rfl | hc
      · exact h1
      · exact lt_trans h1 ((List.pairwise_cons.1 h2).1 c hc)
    · intro h
      obtain ⟨h1, h2⟩ := List.pairwise_cons.1 h
      exact ⟨h1 b (by simp), h2⟩
theorem risB2_all : ∀ {L : List Bm}, (∀ j (h : j + 1 < L.length), lt (L[j]'(by omega)).1 L[j + 1].1 = true) → risB2 L = true
  | [], _ => rfl
  | [_], _ => rfl
  | a :: b :: r, h => by
    unfold risB2
    rw [Bool.and_eq_true]
    exact ⟨h 0 (by simp), risB2_all (L := b :: r) fun j hj => h (j + 1) (by simpa using hj)⟩
theorem risB2_not {L : List Bm} {j : Nat} (h : j + 1 < L.length) (hn : lt (L[j]'(by omega)).1 L[j + 1].1 = false) : risB2 L = false := by
  cases hb : risB2 L
  · rfl
  · have := List.pairwise_iff_getElem.1 (risB2_iff.1 hb) j (j + 1) (by omega) h (by omega)
    rw [hn] at this; cases this
theorem geqB (a b : ByteArray) (X : World) : (binOp BinOp.geq 9 (.string a) (.string b)).run Tryz.prog X = .ok (.bool (!lt a b)) X := by rw [← noLess_lt, ← noLess_is]; rfl
end Ve
end Go.Proofs.YtacggkigfjpfnaaGreatDoor
