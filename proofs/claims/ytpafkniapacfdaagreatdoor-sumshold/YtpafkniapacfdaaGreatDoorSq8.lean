
import Derived.Test.YtpafkniapacfdaaGreatDoorSq7
import Derived.Test.YtpafkniapacfdaaGreatDoorSq6
import Derived.Test.YtpafkniapacfdaaGreatDoorSq1
import Derived.Test.YtpafkniapacfdaaGreatDoorSq3
import Derived.Test.YtpafkniapacfdaaGreatDoorSq4
import Derived.TacticsInMore
import Derived.LoopNIn
import Derived.LoopIn
import Derived.RegionIn
import Derived.RangeFuncLeaves
import Derived.WalkSmall
import Derived.Shelf.Strconv.Itoa3
import Derived.Deep.RegionHeld
namespace Go.Proofs.YtpafkniapacfdaaGreatDoor
open Go.RowKit
namespace Ve
def worst (b : Nat) (cs : List Nat) : Nat := if b = 1 ∨ 1 ∈ cs then 1 else if b = 2 ∨ 2 ∈ cs then 2 else 0
theorem worst_fold {α : Type} (f : α → Nat) (hf : ∀ x, f x = 0 ∨ f x = 1 ∨ f x = 2) : ∀ (ps : List α) (b : Nat), (b = 0 ∨ b = 1 ∨ b = 2) → ps.foldl (fun b p => worse b (f p)) b = worst b (ps.map f) := by
  intro ps
  induction ps with
  | nil =>
    intro b hb
    rcases hb with rfl | rfl | rfl <;> simp [worst]
  | cons p r ih =>
    intro b hb
    rw [List.foldl_cons, ih _ (worse_err hb (hf p))]
    rcases hb with rfl | rfl | rfl <;> rcases hf p with h | h | h <;> simp [worst, worse, h]
theorem numsErr_worst (ps : List (List UInt8)) : numsErr ps = worst 0 (ps.map fun p => (num p).2) := worst_fold _ num_err ps 0 (Or.inl rfl)
theorem preTo_worst (b : Nat) (hb : b = 0 ∨ b = 1 ∨ b = 2) (ps : List (List UInt8)) : preTo b ps = worst b (ps.map part) := worst_fold _ part_err ps b hb
end Ve
end Go.Proofs.YtpafkniapacfdaaGreatDoor


namespace Go.Proofs.YtpafkniapacfdaaGreatDoor
open Go.RowKit
namespace Ve
def TxAt (w : World) (v : Value) (X : List ByteArray) : Prop :=
  ∃ (a : Option Addr) (c : Nat), v = .slice a X.length c ∧ X.length ≤ c ∧ (X ≠ [] → ∃ b o, a = some ⟨b, o, none⟩ ∧ ∀ j (h : j < X.length), w.cell? ⟨b, o + j, none⟩ = some (.string X[j]))
theorem TxAt.below {w w' : World} {v : Value} {X : List ByteArray} (h : TxAt w v X) (hb : Below w.heap.size w w') : TxAt w' v X := by
  obtain ⟨a, c, e, hc, h⟩ := h
  refine ⟨a, c, e, hc, fun hL => ?_⟩
  obtain ⟨b, o, e2, h2⟩ := h hL
  exact ⟨b, o, e2, fun j hj => cell_below hb (h2 j hj)⟩
theorem own_tx {w : World} {B : Nat} {e : TypeId} {v : Value} {X : List ByteArray} (h : w.ownsRow B e 1 v X.length (X.map Value.string)) : TxAt w v X := by
  obtain ⟨_, ⟨hv, hn0⟩ | ⟨g, cap, cur, hv, hg, hblk, hcap, hcm, hcs, hct⟩⟩ := h
  · exact ⟨none, 0, by rw [hv, hn0], by omega, fun hL => absurd (List.length_eq_zero_iff.1 hn0) hL⟩
  · refine ⟨_, cap, hv, hcap, fun _ => ⟨g, 0, rfl, fun j hj => ?_⟩⟩
    have h1 : (X.map Value.string)[j]? = some (.string X[j]) := by simp [hj]
    rw [← hct, List.getElem?_take, if_pos (by omega)] at h1
    simp only [World.cell?, hblk]
    rw [← h1]; simp
theorem tx_cellK {W : World} {a : Option Addr} {n c : Nat} {X : List ByteArray} (h : TxAt W (.slice a n c) X) {k : Nat} (hk : k < X.length) : ∃ b o, a = some ⟨b, o, none⟩ ∧ W.cell? ⟨b, o + k, none⟩ = some (.string X[k]) := by
  obtain ⟨a', c', e, _, h⟩ := h
  injection e with e1 e2 e3
  subst e1
  obtain ⟨b', o', e4, h4⟩ := h (by intro h0; rw [h0] at hk; simp at hk)
  exact ⟨b', o', e4, h4 k hk⟩
end Ve
end Go.Proofs.YtpafkniapacfdaaGreatDoor


namespace Go.Proofs.YtpafkniapacfdaaGreatDoor
open Go.RowKit Go.Shelf Go.Maps Go.Sort
namespace Ve
attribute [local go_sem] Oper.semAt_some
def szV : Option Value → Nat
  | some (.string s) => s.size
  | _ => 0
def boxN (b : Nat) (W : World) : Nat := match W.heap[b]? with
  | some (.cells cs _ _) => szV cs[0]?
  | _ => 0
theorem boxN_is {b : Nat} {W : World} {s : ByteArray} {T : TypeId} (h : W.heap[b]? = some (.cells #[.string s] T (0, 0))) : boxN b W = s.size := by unfold boxN; rw [h]; rfl
theorem ixb_ge (s : ByteArray) : -1 ≤ Lib.indexByte s.data.toList 10 := Lib.indexByte_ge _ _
theorem sxt_take (s : ByteArray) (k : Nat) : (s.extract 0 k).data.toList = s.data.toList.take k := by
  rw [extract_list]; simp
theorem sxt_drop (s : ByteArray) (k : Nat) : (s.extract k s.size).data.toList = s.data.toList.drop k := by
  rw [extract_list, List.take_of_length_le (by rw [List.length_drop, len_eq]; exact Nat.le_refl _)]
set_option maxRecDepth 100000 in
set_option maxHeartbeats 4000000 in
theorem ln1_in (n : Nat) (hn : 2 ≤ n) (l b0 N : Nat) (s : ByteArray) (hs : s.size ≤ 1000000) (J : List (List UInt8) → World → Prop)
    (hJd : ∀ pre W, J pre W → J pre W.drew) (hJs : ∀ pre W v, J pre W → J pre (W.setCell ⟨b0, 0, none⟩ v))
    (hY : ∀ pre x W, J pre W → pre.length < N → YieldAt Fence.wide (n - 1) Tryz.prog l #[encStr x] W fun e W' => e = .returned (.bool true) ∧ J (pre ++ [x]) W' ∧ W'.heap[b0]? = W.heap[b0]?)
    (W : World) (h0 : J [] W) (hb : W.heap[b0]? = some (.cells #[.string s] 9 (0, 0))) (hN : (linesL s.data.toList).length ≤ N) :
    CallsIn Fence.wide n Tryz.prog 75 #[.func (.yield l) #[] #[], .pointer (some ⟨b0, 0, none⟩)] W fun e W' => (∃ v, e = .returned v) ∧ J (linesL s.data.toList) W' := by
  have hn1 : 1 ≤ n := by omega
  have HB := hid hb
  have H0 := hid h0
  have HN := hid hN
  clear hb h0 hN
  refine callsIn_of_wp Tryz.func75 rfl trivial ?_ rfl
  simp only [Tryz.ntmps75, List.size_toArray, List.length_cons, List.length_nil, Nat.reduceAdd, Nat.reduceSub, Array.replicate_succ, Array.replicate_zero, List.push_toArray, List.append_toArray, List.nil_append, List.cons_append]
  gi_wp2
  gi_loopw [4] (fun _ wr => ∃ (rest : ByteArray) (pre : List (List UInt8)), Hid (wr.heap[b0]? = some (.cells #[.string rest] 9 (0, 0)) ∧ linesL s.data.toList = pre ++ linesL rest.data.toList ∧ J pre wr ∧ rest.size ≤ 1000000)) (fun _ wr => boxN b0 wr)
  case atStart => exact ⟨s, [], hid ⟨HB.out, rfl, H0.out, hs⟩⟩
  case round =>
    obtain ⟨rest, pre, HR⟩ := hrel
    have cR : wr.cell? ⟨b0, 0, none⟩ = some (.string rest) := by rw [Lib.cell_of_heap HR.out.1]; rfl
    have fR : ∀ o, wr.frozen? ⟨b0, o, none⟩ = false := fun o => Lib.frozen_of_heap HR.out.1 o
    by_cases h0 : 0 < rest.size
    · have h0I : (0 : Int) < (rest.size : Int) := by omega
      have HI := hid (Tryz.strings_IndexByte rest 10 wr)
      rcases Int.lt_or_le (Lib.indexByte rest.data.toList 10) 0 with hi | hi
      · have hi1 : Lib.indexByte rest.data.toList 10 = -1 := by have := ixb_ge rest; omega
        have HLN := hid (lines_none rest.data.toList (fun e => by have h := len_eq rest; rw [e] at h; simp at h; omega) hi1)
        have hid0 : ¬ (0 : Int) ≤ -1 := by omega
        rw [show (10 : Int).toNat.toUInt8 = (10 : UInt8) from rfl, hi1] at HI
        have HJ2 := hid (hJs pre wr (.string ⟨#[]⟩) HR.out.2.2.1)
        have HC2 := hid (cell1_set (x := .string ⟨#[]⟩) HR.out.1)
        have HLE := hid (show pre.length < N by
          have := HN.out
          rw [HR.out.2.1, HLN.out] at this
          simp at this; omega)
        obtain ⟨fn, tmps, assign, body, hy, hR⟩ := hY pre rest.data.toList _ HJ2.out HLE.out
        rw [show encStr rest.data.toList = Value.string rest from by simp [encStr]] at hy
        have HBX := hid (boxN_is HR.out.1)
        clear hi hi1
        gi_wp2_with (refine ⟨trivial, ?_⟩; gi_at_call 76; refine (callsIn_wide.2 HI.out).mono ?_; rintro e W1 ⟨rfl, rfl⟩)
        refine hR.mono ?_
        rintro e W3 ⟨rfl, hJ3, hk3⟩
        gi_wp2
        go_roundw
        case rel => exact ⟨⟨#[]⟩, pre ++ [rest.data.toList], hid ⟨by rw [hk3]; exact HC2.out, by rw [HR.out.2.1, HLN.out]; simp [linesL], hJ3, by decide⟩⟩
        case measure => rw [HBX.out, boxN_is (hk3.trans HC2.out)]; exact h0
      · obtain ⟨i, hi1⟩ : ∃ i : Nat, Lib.indexByte rest.data.toList 10 = (i : Int) := ⟨(Lib.indexByte rest.data.toList 10).toNat, by omega⟩
        obtain ⟨hil, hln⟩ := lines_some rest.data.toList i hi1
        rw [len_eq] at hil
        have HLN := hid hln
        rw [show (10 : Int).toNat.toUInt8 = (10 : UInt8) from rfl, hi1] at HI
        have q0 : (0 : Int) ≤ (i : Int) := by omega
        have q1 : (0 : Int) ≤ (i : Int) + 1 := by omega
        have q2 : (i : Int) + 1 ≤ (rest.size : Int) := by omega
        have q3 : ((i : Int) + 1).toNat = i + 1 := by omega
        have qw : wrap64 ((i : Int) + 1) = (i : Int) + 1 := IntWalk.wrap64_in _ (by have := HR.out.2.2.2; omega)
        clear hi hi1 hln
        gi_wp2_with (refine ⟨trivial, ?_⟩; gi_at_call 76; refine (callsIn_wide.2 HI.out).mono ?_; rintro e W1 ⟨rfl, rfl⟩)
        gi_region
        have HJ2 := hid (hJd _ _ (hJs pre W1 (.string (rest.extract (i + 1) rest.size)) HR.out.2.2.1))
        have HC2 := hid (show ((W1.setCell ⟨b0, 0, none⟩ (.string (rest.extract (i + 1) rest.size))).drew).heap[b0]? = some (.cells #[.string (rest.extract (i + 1) rest.size)] 9 (0, 0)) from cell1_set (x := .string (rest.extract (i + 1) rest.size)) HR.out.1)
        have HLE := hid (show pre.length < N by
          have := HN.out
          rw [HR.out.2.1, HLN.out] at this
          simp at this; omega)
        obtain ⟨fn, tmps, assign, body, hy, hR⟩ := hY pre (rest.data.toList.take (i + 1)) _ HJ2.out HLE.out
        rw [show encStr (rest.data.toList.take (i + 1)) = Value.string (rest.extract 0 (i + 1)) from by unfold encStr; congr 1; exact str_ext (by rw [sxt_take])] at hy
        have HBX := hid (boxN_is HR.out.1)
        gi_wp2
        refine hR.mono ?_
        rintro e W3 ⟨rfl, hJ3, hk3⟩
        gi_wp2
        go_roundw
        case rel => exact ⟨_, pre ++ [rest.data.toList.take (i + 1)], hid ⟨hk3.trans HC2.out, by rw [HR.out.2.1, HLN.out, sxt_drop]; simp, hJ3, by have := HR.out.2.2.2; rw [← len_eq, sxt_drop]; simp; omega⟩⟩
        case measure => rw [HBX.out, boxN_is (hk3.trans HC2.out), ← len_eq, sxt_drop]; simp; omega
    · have hz : rest.data.toList = [] := List.eq_nil_of_length_eq_zero (by rw [len_eq]; omega)
      have h0I : ¬ (0 : Int) < (rest.size : Int) := by omega
      gi_wp2
      go_end0
      exact ⟨⟨_, rfl⟩, by rw [HR.out.2.1, hz]; simpa [linesL] using HR.out.2.2.1⟩
section
variable {P : Program} {ρ : Ren}
theorem below_set {b0 n : Nat} {W0 W : World} {v : Value} (h : Below n W0 W) : Below n (W0.setCell ⟨b0, 0, none⟩ v) (W.setCell ⟨b0, 0, none⟩ v) := by
  refine ⟨h.os, h.tape, h.output, by rw [cell1_size, cell1_size]; exact h.size, fun k hk => ?_⟩
  simp only [World.setCell, Array.getElem?_modify]
  rw [h.block k hk]
theorem apAt_set {W0 W : World} {b0 : Nat} {fn : FuncId} {sv v : Value} {Bs l D : Nat} {ss : List (List UInt8)} (h : AnyZ.ApAt ρ W0 fn sv Bs l D ss W) (hb : b0 < W0.heap.size) (h1 : Bs ≠ b0) (h2 : l ≠ b0) (h3 : D ≠ b0) :
    AnyZ.ApAt ρ (W0.setCell ⟨b0, 0, none⟩ v) fn sv Bs l D ss (W.setCell ⟨b0, 0, none⟩ v) := by
  obtain ⟨x, hx, hr, hn⟩ := h.box
  refine ⟨⟨x, (cell1_far h1).trans hx, ?_, hn⟩, (cell1_far h2).trans h.L, (cell1_far h3).trans h.K, ?_⟩
  · rw [cell1_size]
    refine hr.kept (grownBy_setCell0_a W b0 v) (Or.inr fun e => ?_)
    have := (hr.lt b0 e).1
    omega
  · rw [cell1_size]; exact below_set h.below
set_option maxRecDepth 100000 in
set_option maxHeartbeats 4000000 in
theorem appendSrc_in (L : SlLaysZ.n11 P ρ) (F : Fence) (n : Nat) (h11 : F.fn (ρ.f 11)) (hro : F.round = none) (hn : 2 ≤ n) (g : Nat) (lb : Array Value) (hFg : F.fn g) (eg : ∀ args w, (callFunc g args).run P w = .ok (.enter g args) w)
    (X : List (List UInt8)) (N : Nat) (hN : N ≤ maxLen) (hNb : N * 16 ≤ 140737488355328) (w : World) (b0 : Nat) (hb0 : b0 < w.heap.size)
    (hseq : ∀ (l : Nat) (J : List (List UInt8) → World → Prop) (W : World), Below w.heap.size w W → (∀ pre W, J pre W → J pre W.drew) → (∀ pre W v, J pre W → J pre (W.setCell ⟨b0, 0, none⟩ v)) →
      (∀ pre x W1, J pre W1 → pre.length < N → YieldAt F (n - 1 - 1) P l #[encStr x] W1 fun e W' => e = .returned (.bool true) ∧ J (pre ++ [x]) W' ∧ W'.heap[b0]? = W1.heap[b0]?) → J [] W →
      CallsIn F (n - 1) P g (#[.func (.yield l) #[] #[]] ++ lb) W fun e W' => (∃ v, e = .returned v) ∧ J X W') :
    CallsIn F n P (ρ.f 11) #[.slice none 0 0, .func (.func g) #[] lb] w fun e w' => ∃ v, e = .returned v ∧ w'.ownsRow w.heap.size (ρ.t 26) 1 v X.length (X.map encStr) ∧ Below b0 w w' := by
  have h1 : 1 ≤ n := by omega
  have mixed := L.mixed; have t0 := L.t0; have a0 := L.a0; have z0 := L.z0; have v0 := L.v0; have t24 := L.t24; have a24 := L.a24; have z24 := L.z24; have v24 := L.v24; have t26 := L.t26; have a26 := L.a26; have z26 := L.z26; have v26 := L.v26; have t28 := L.t28; have a28 := L.a28; have z28 := L.z28; have v28 := L.v28
  have hne : ρ.t 24 ≠ ρ.t 26 := fun e => by have h := L.t24; rw [e, L.t26] at h; cases h
  have u0 := run_underlying L.t0; have u24 := run_underlying L.t24; have u26 := run_underlying L.t26; have u28 := run_underlying L.t28
  obtain ⟨_, _, FG⟩ := L.f11
  refine callsIn_of_wp_marks FG rfl h11 ?_ hro
  simp only [SlBodyZ.n11_ntmps ρ, List.size_toArray, List.length_cons, List.length_nil, Nat.reduceAdd, Nat.reduceSub, Array.replicate_succ, Array.replicate_zero, List.push_toArray, List.append_toArray, List.nil_append, List.cons_append]
  gi_wp2
  refine wpIn_rangeFunc ?_
  intro fn hfn
  rw [hro]
  obtain ⟨W0, hW0⟩ : ∃ W0, w.alloc (.cells #[.slice none 0 0] (ρ.t 24)) = W0 := ⟨_, rfl⟩
  have hs0 : W0.heap.size = w.heap.size + 1 := by rw [← hW0]; simp
  have hv0 : W0.heap[w.heap.size]? = some (.cells #[.slice none 0 0] (ρ.t 24) (0, 0)) := by rw [← hW0]; exact World.alloc_heap_new w _
  have hb0' : Below w.heap.size w W0 := by rw [← hW0]; exact (Below.refl _ w).alloc (Nat.le_refl _) _
  rw [hW0]
  obtain ⟨W1, hW1⟩ : ∃ W1, (W0.alloc (.deferred (some []))).alloc (.loop (AnyZ.apRec ρ fn (.func (.func g) #[] lb) w.heap.size W0.heap.size .ready none)) = W1 := ⟨_, rfl⟩
  have hold : ∀ k, k < W0.heap.size → W1.heap[k]? = W0.heap[k]? := fun k hk => by
    rw [← hW1]; exact (Below.heap_alloc _ _ k (by simp; omega)).trans (Below.heap_alloc _ _ k hk)
  have hb1 : Below w.heap.size w W1 := by rw [← hW1]; exact (hb0'.alloc hb0'.size _).alloc (by have := hb0'.size; simp; omega) _
  have hs1 : W1.heap.size = W0.heap.size + 2 := by rw [← hW1]; simp
  have hM : AnyZ.ApAt ρ w fn (.func (.func g) #[] lb) w.heap.size (W0.heap.size + 1) W0.heap.size [] W1 :=
    ⟨⟨_, (hold w.heap.size (by omega)).trans hv0, ⟨rfl, .inl ⟨rfl, rfl⟩⟩, by simp⟩,
     by rw [← hW1]; have := World.alloc_heap_new (W0.alloc (.deferred (some []))) (.loop (AnyZ.apRec ρ fn (.func (.func g) #[] lb) w.heap.size W0.heap.size .ready none)); rwa [World.size_alloc] at this,
     by rw [← hW1]; exact (Below.heap_alloc _ _ _ (by simp)).trans (World.alloc_heap_new W0 _), hb1⟩
  refine ⟨W0.heap.size + 1, [{ target := .collected W0.heap.size, args := #[] }], W1, { target := .fn (.func g) lb, args := #[.func (.yield (W0.heap.size + 1)) #[] #[]] }, W1, g,
    #[.func (.yield (W0.heap.size + 1)) #[] #[]] ++ lb, W1, ?_, ?_, ?_, ?_, fun _ => h1, ?_⟩
  · rw [← hW1]; exact run_enterLoop_outer _ _ _ _ _
  · simp [resolve, go_sem]
  · intro f' hf'; simp [Target.leads] at hf'; subst hf'; exact hFg
  · simp [invoke, go_sem, eg]
  · refine (hseq (W0.heap.size + 1) (fun ss W => ∃ Wk : World, Wk.heap.size = w.heap.size ∧ AnyZ.ApAt ρ Wk fn (.func (.func g) #[] lb) w.heap.size (W0.heap.size + 1) W0.heap.size ss W ∧ Below b0 w Wk) W1 hb1
      (fun pre W ⟨Wk, hk, h, hb⟩ => ⟨Wk, hk, ⟨h.box, h.L, h.K, ⟨h.below.os, h.below.tape, h.below.output, h.below.size, h.below.block⟩⟩, hb⟩)
      (fun pre W v ⟨Wk, hk, h, hb⟩ => ⟨Wk.setCell ⟨b0, 0, none⟩ v, by rw [cell1_size]; exact hk, apAt_set h (by omega) (by omega) (by omega) (by omega), hb.setCell (p := ⟨b0, 0, none⟩) (Nat.le_refl _) _⟩)
      (fun pre x W ⟨Wk, hk, h, hb⟩ hl => by
        obtain ⟨fn', tmps, assign, body, hy, hR⟩ := AnyZ.apYield { L with } F (n - 1 - 1) Wk fn hfn _ w.heap.size (W0.heap.size + 1) W0.heap.size (by omega) (by omega) (by omega) (by omega) (by omega) N hN hNb pre x W h hl
        exact ⟨fn', tmps, assign, body, hy, hR.mono fun e W' ⟨e1, h2, _⟩ => ⟨e1, ⟨Wk, hk, h2, hb⟩, (h2.below.block b0 (by omega)).trans (h.below.block b0 (by omega)).symm⟩⟩)
      ⟨w, rfl, hM, Below.refl _ _⟩).mono ?_
    rintro e W2 ⟨⟨v0, rfl⟩, Wk, hk, h2, hbk⟩
    obtain ⟨v, hv, hrow, hnil⟩ := h2.box
    have hend := run_endLoop (P := P) h2.L (by simp [AnyZ.apRec])
    obtain ⟨W3, hW3⟩ : ∃ W3, W2.putObj (W0.heap.size + 1) (.loop { AnyZ.apRec ρ fn (.func (.func g) #[] lb) w.heap.size W0.heap.size .ready none with state := .exhausted }) = W3 := ⟨_, rfl⟩
    rw [hW3] at hend
    have hg3 : W2.grownBy W3 (some (W0.heap.size + 1)) := by rw [← hW3]; exact grownBy_putObj_a _ _ _
    have hv3 : W3.heap[w.heap.size]? = some (.cells #[v] (ρ.t 24) (0, 0)) := by rw [← hW3]; exact (World.putObj_heap_other (by omega)).trans hv
    have hK3 : W3.heap[W0.heap.size]? = some (.deferred (some [])) := by rw [← hW3]; exact (World.putObj_heap_other (by omega)).trans h2.K
    rw [hk] at hrow
    have hrow3 := hrow.kept hg3 (ownsRow_ne_a hrow h2.L (fun cur e => by first | cases e | exact hne (Obj.cells.inj e).2.1))
    have hb3 : Below b0 w W3 := (hbk.trans (h2.below.mono (by omega))).grown hg3 (by have := h2.below.size; omega) (fun k e => by cases e; omega)
    obtain ⟨hc3, hf3⟩ := cell_of_box_a hv3
    clear hW3
    refine ⟨none, W3, hend, ?_⟩
    gi_wp2
    rw [← hs0]
    refine ⟨by simp, .inl ⟨_, _, rfl, run_takeDeferred hK3, ?_⟩⟩
    exact ⟨_, results_tmp rfl _ _ _, v, rfl, hrow3.kept (grownBy_putObj_a _ _ _) (ownsRow_ne_a hrow3 hK3 (fun cur e => by first | cases e | exact hne (Obj.cells.inj e).2.1)), hb3.grown (grownBy_putObj_a _ _ _) (by have := hb3.size; omega) (fun k e => by cases e; omega)⟩
set_option maxHeartbeats 1000000 in
theorem collectSrc_in (L : SlLaysZ.n8 P ρ) (F : Fence) (n : Nat) (h8 : F.fn (ρ.f 8)) (h11 : F.fn (ρ.f 11)) (hro : F.round = none) (hn : 3 ≤ n) (g : Nat) (lb : Array Value) (hFg : F.fn g) (eg : ∀ args w, (callFunc g args).run P w = .ok (.enter g args) w)
    (X : List (List UInt8)) (N : Nat) (hN : N ≤ maxLen) (hNb : N * 16 ≤ 140737488355328) (w : World) (b0 : Nat) (hb0 : b0 < w.heap.size)
    (hseq : ∀ (l : Nat) (J : List (List UInt8) → World → Prop) (W : World), Below w.heap.size w W → (∀ pre W, J pre W → J pre W.drew) → (∀ pre W v, J pre W → J pre (W.setCell ⟨b0, 0, none⟩ v)) →
      (∀ pre x W1, J pre W1 → pre.length < N → YieldAt F (n - 1 - 1 - 1) P l #[encStr x] W1 fun e W' => e = .returned (.bool true) ∧ J (pre ++ [x]) W' ∧ W'.heap[b0]? = W1.heap[b0]?) → J [] W →
      CallsIn F (n - 1 - 1) P g (#[.func (.yield l) #[] #[]] ++ lb) W fun e W' => (∃ v, e = .returned v) ∧ J X W') :
    CallsIn F n P (ρ.f 8) #[.func (.func g) #[] lb] w fun e w' => ∃ v, e = .returned v ∧ w'.ownsRow w.heap.size (ρ.t 26) 1 v X.length (X.map encStr) ∧ Below b0 w w' := by
  have h1 : 1 ≤ n := by omega
  have e11 : ∀ args w, (callFunc (ρ.f 11) args).run P w = .ok (.enter (ρ.f 11) args) w := L.f11.enters rfl
  have mixed := L.mixed; have t0 := L.t0; have a0 := L.a0; have z0 := L.z0; have v0 := L.v0; have t24 := L.t24; have a24 := L.a24; have z24 := L.z24; have v24 := L.v24; have t26 := L.t26; have a26 := L.a26; have z26 := L.z26; have v26 := L.v26; have t28 := L.t28; have a28 := L.a28; have z28 := L.z28; have v28 := L.v28
  have u0 := run_underlying L.t0; have u24 := run_underlying L.t24; have u26 := run_underlying L.t26; have u28 := run_underlying L.t28
  obtain ⟨_, _, FG⟩ := L.f8
  refine callsIn_of_wp FG rfl h8 ?_ hro
  simp only [SlBodyZ.n8_ntmps ρ, List.size_toArray, List.length_cons, List.length_nil, Nat.reduceAdd, Nat.reduceSub, Array.replicate_succ, Array.replicate_zero, List.push_toArray, List.append_toArray, List.nil_append, List.cons_append]
  gi_wp2_with (gi_at_fn (ρ.f 11); refine (appendSrc_in { L with } F (n - 1) h11 hro (by omega) g lb hFg eg X N hN hNb _ b0 hb0 hseq).mono ?_; rintro e w' ⟨v, rfl, hrow, hb⟩)
  go_ret
  exact ⟨v, rfl, hrow, hb⟩
end
theorem col_any (b0 : Nat) (s : ByteArray) (hs : s.size ≤ 1000000) (w : World) (hb : w.heap[b0]? = some (.cells #[.string s] 9 (0, 0))) :
    Calls Tryz.prog 40 #[.func (.func 75) #[] #[.pointer (some ⟨b0, 0, none⟩)]] w fun e w' => ∃ v, e = .returned v ∧ w'.ownsRow w.heap.size 9 1 v (linesL s.data.toList).length ((linesL s.data.toList).map encStr) ∧ Below b0 w w' := by
  have hl := lines_len s.data.toList
  rw [len_eq] at hl
  have hlt : b0 < w.heap.size := (Array.getElem?_eq_some_iff.1 hb).1
  have c := collectSrc_in Tryz.collectS Fence.wide 9 trivial trivial rfl (by omega) 75 #[.pointer (some ⟨b0, 0, none⟩)] trivial (enters_of Tryz.func75 (by kernel_rfl) rfl) (linesL s.data.toList) 1000000 (by unfold maxLen; omega) (by omega) w b0 hlt
    (fun l J W hW hd hst hY h0 => ln1_in 7 (by omega) l b0 1000000 s hs J hd hst hY W h0 ((hW.block b0 hlt).trans hb) (by omega))
  change CallsIn _ _ Tryz.prog 40 _ _ _ at c
  exact ((callsIn_wide (n := 9)).1 c)
set_option maxHeartbeats 400000 in
theorem slines_any (s : ByteArray) (w : World) :
    Calls Tryz.prog 41 #[.string s] w fun e w' => e = .returned (.func (.func 75) #[] #[.pointer (some ⟨w.heap.size, 0, none⟩)]) ∧ w' = w.alloc (.cells #[.string s] 9) := by
  go_enter Tryz.func41, Tryz.ntmps41
  go_wp2_with fail
  go_ret
  exact ⟨rfl, rfl⟩
end Ve
end Go.Proofs.YtpafkniapacfdaaGreatDoor


namespace Go.Proofs.YtpafkniapacfdaaGreatDoor
open Go.RowKit Go.Sort
namespace Ve
def powName : String := "internal/strconv.uint64pow10"
theorem below_grow (w : World) (k : Nat) (os : Array Obj) : Below w.heap.size w (grow (w.drewN k) os) :=
  ⟨rfl, rfl, rfl, by show w.heap.size ≤ (w.heap ++ os).size; simp, fun i hi => by show (w.heap ++ os)[i]? = _; rw [Array.getElem?_append_left hi]⟩
theorem nDigits_le : ∀ (k u : Nat), u < 10 ^ (k + 1) → Lib.nDigits u ≤ k + 1
  | 0, u, h => by rw [Lib.nDigits_small (by simpa using h)]; omega
  | k + 1, u, h => by
    by_cases h0 : u < 10
    · rw [Lib.nDigits_small h0]; omega
    · rw [Lib.nDigits_big h0]
      have := nDigits_le k (u / 10) (by rw [Nat.pow_succ] at h; omega)
      omega
theorem powAt : Tryz.prog.globalNamed powName = some 11 := by kernel_rfl
theorem tab_below {w w' : World} (h : Lib.TabIs Tryz.prog w powName .u64 Lib.pow10Tab) (hb : Below w.heap.size w w') : Lib.TabIs Tryz.prog w' powName .u64 Lib.pow10Tab := by
  have hlt : 11 < w.heap.size := by
    have h1 : w.var? Tryz.prog powName = some _ := h
    unfold World.var? at h1
    rw [powAt] at h1
    simp only [Option.bind_some] at h1
    rcases Nat.lt_or_ge 11 w.heap.size with hh | hh
    · exact hh
    · rw [Array.getElem?_eq_none hh] at h1; cases h1
  exact var?_below hb powAt hlt h
def core3 (a b c : Int) : List UInt8 := [118] ++ Lib.itoa a ++ [46] ++ Lib.itoa b ++ [46] ++ Lib.itoa c
def textOf (a b c : Int) (ps : List (List UInt8)) : List UInt8 :=
  if inBB a && inBB b && inBB c && pre ps == 0 then (if ps.isEmpty then core3 a b c else core3 a b c ++ [45] ++ Lib.join ps [46]) else []
end Ve
end Go.Proofs.YtpafkniapacfdaaGreatDoor


namespace Go.Proofs.YtpafkniapacfdaaGreatDoor
open Go.RowKit
namespace Ve
theorem three (w : World) (A B C : Array Value) (T U : TypeId) (j : Nat) :
    (((w.alloc (.cells A T)).alloc (.cells B T)).alloc (.cells C U)).cell? ⟨w.heap.size, j, none⟩ = A[j]? ∧ (((w.alloc (.cells A T)).alloc (.cells B T)).alloc (.cells C U)).cell? ⟨w.heap.size + 1, j, none⟩ = B[j]? ∧
    (((w.alloc (.cells A T)).alloc (.cells B T)).alloc (.cells C U)).cell? ⟨w.heap.size + 1 + 1, j, none⟩ = C[j]? := by
  refine ⟨?_, ?_, ?_⟩
  · rw [World.cell?_alloc_lt _ _ _ (by simp; omega), World.cell?_alloc_lt _ _ _ (by simp), World.cell?_alloc_at _ _ _ _ rfl]
  · rw [World.cell?_alloc_lt _ _ _ (by simp), World.cell?_alloc_at _ _ _ _ (by simp)]
  · rw [World.cell?_alloc_at _ _ _ _ (by simp)]
end Ve
end Go.Proofs.YtpafkniapacfdaaGreatDoor
