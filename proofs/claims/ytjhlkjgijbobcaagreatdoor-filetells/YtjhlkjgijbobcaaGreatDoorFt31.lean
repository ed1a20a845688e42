/-
  FileP ModQ ModW FileA FileS
-/
import Derived.Test.YtjhlkjgijbobcaaGreatDoorFt20
import Derived.Test.YtjhlkjgijbobcaaGreatDoorFt7
import Derived.Laws.StructEq
namespace Go.Proofs.YtjhlkjgijbobcaaGreatDoor
open Go.RowKit
namespace Ve
def mErr (m : Bm) : Nat := modErr m.1.data.toList m.2.data.toList
def mAhead (a b : Bm) : Bool := aheadB a.1.data.toList a.2.data.toList b.1.data.toList b.2.data.toList
def noLess (a b : ByteArray) : Bool := !decide (Lib.compareBytes a.data.toList b.data.toList < 0)
def reqW (own : ByteArray) (prev : Option Bm) (m : Bm) : Nat :=
  if mErr m = 0 then (if m.1 = own then 3 else match prev with
    | none => 0
    | some p => if noLess p.1 m.1 then 8 else 0) else mErr m
def exW (prev : Option Bm) (m : Bm) : Nat :=
  if mErr m = 0 then (match prev with
    | none => 0
    | some p => if mAhead p m then 0 else 8) else mErr m
def prevOf (l : List Bm) (i : Nat) : Option Bm := if i = 0 then none else l[i - 1]?
def reqE (own : ByteArray) (l : List Bm) (i : Nat) : Nat := match l[i]? with
  | none => 0
  | some m => reqW own (prevOf l i) m
def exE (l : List Bm) (i : Nat) : Nat := match l[i]? with
  | none => 0
  | some m => exW (prevOf l i) m
def hasB (x : List Bm) (m : Bm) : Bool := x.any fun y => decide (m.1 = y.1 ∧ m.2 = y.2)
theorem hasB_iff {x : List Bm} {m : Bm} : hasB x m = true ↔ m ∈ x := by
  unfold hasB
  rw [List.any_eq_true]
  constructor
  · rintro ⟨y, hy, h⟩
    have h := of_decide_eq_true h
    have : m = y := by cases m; cases y; simp only at h; rw [h.1, h.2]
    rw [this]; exact hy
  · intro h
    exact ⟨m, h, decide_eq_true ⟨rfl, rfl⟩⟩
theorem hasB_not {x : List Bm} {m : Bm} (h : m ∉ x) : hasB x m = false := by
  cases e : hasB x m
  · rfl
  · exact absurd (hasB_iff.1 e) h
def clE (x l : List Bm) (i : Nat) : Nat := match l[i]? with
  | none => 0
  | some m => if hasB x m then 9 else 0
def fstE (E : Nat → Nat) : Nat → Option Nat
  | 0 => none
  | n + 1 => match fstE E n with
    | some i => some i
    | none => if E n = 0 then none else some n
theorem fstE_none {E : Nat → Nat} : ∀ {n : Nat}, (∀ j, j < n → E j = 0) → fstE E n = none
  | 0, _ => rfl
  | n + 1, h => by
    unfold fstE
    rw [fstE_none (n := n) (fun j hj => h j (by omega)), if_pos (h n (by omega))]
theorem fstE_some {E : Nat → Nat} {i : Nat} (h0 : ∀ j, j < i → E j = 0) (hi : E i ≠ 0) : ∀ {n : Nat}, i < n → fstE E n = some i
  | 0, h => by omega
  | n + 1, h => by
    unfold fstE
    rcases Nat.lt_or_ge i n with hh | hh
    · rw [fstE_some h0 hi hh]
    · have : i = n := by omega
      subst this
      rw [fstE_none h0]
      simp only
      rw [if_neg hi]
theorem fstE_of_none {E : Nat → Nat} : ∀ {n : Nat}, fstE E n = none → ∀ j, j < n → E j = 0
  | 0, _, j, hj => by omega
  | n + 1, h, j, hj => by
    unfold fstE at h
    cases h1 : fstE E n with
    | some i => rw [h1] at h; cases h
    | none =>
      rw [h1] at h
      simp only at h
      by_cases h2 : E n = 0
      · rcases Nat.lt_or_ge j n with hh | hh
        · exact fstE_of_none h1 j hh
        · have : j = n := by omega
          rw [this]; exact h2
      · rw [if_neg h2] at h; cases h
theorem fstE_of_some {E : Nat → Nat} {i : Nat} : ∀ {n : Nat}, fstE E n = some i → i < n ∧ E i ≠ 0 ∧ ∀ j, j < i → E j = 0
  | 0, h => by cases h
  | n + 1, h => by
    unfold fstE at h
    cases h1 : fstE E n with
    | some k =>
      rw [h1] at h
      obtain ⟨a, b, c⟩ := fstE_of_some h1
      simp only [Option.some.injEq] at h
      subst h
      exact ⟨by omega, b, c⟩
    | none =>
      rw [h1] at h
      simp only at h
      by_cases h2 : E n = 0
      · rw [if_pos h2] at h; cases h
      · rw [if_neg h2] at h
        simp only [Option.some.injEq] at h
        subst h
        exact ⟨by omega, h2, fstE_of_none h1⟩
def fileF (p : ByteArray) (R X : List Bm) : Nat × Option Nat :=
  if pathErr p.data.toList = 0 then
    (if 20 < R.length ∨ 20 < X.length then (7, none)
     else match fstE (reqE p R) R.length with
      | some i => (reqE p R i, some i)
      | none => match fstE (exE X) X.length with
        | some i => (exE X i, some i)
        | none => match fstE (clE X R) R.length with
          | some i => (9, some i)
          | none => (0, none))
  else (pathErr p.data.toList, none)
def MsAt (w : World) (v : Value) (L : List Bm) : Prop :=
  ∃ (a : Option Addr) (c : Nat), v = .slice a L.length c ∧ L.length ≤ c ∧ (L ≠ [] → ∃ b o, a = some ⟨b, o, none⟩ ∧ ∀ j (h : j < L.length), w.cell? ⟨b, o + j * 2, none⟩ = some (.string L[j].1) ∧ w.cell? ⟨b, o + j * 2 + 1, none⟩ = some (.string L[j].2))
theorem MsAt.below {w w' : World} {v : Value} {L : List Bm} (h : MsAt w v L) (hb : Below w.heap.size w w') : MsAt w' v L := by
  obtain ⟨a, c, e, hc, h⟩ := h
  refine ⟨a, c, e, hc, fun hL => ?_⟩
  obtain ⟨b, o, e2, h2⟩ := h hL
  exact ⟨b, o, e2, fun j hj => ⟨cell_below hb (h2 j hj).1, cell_below hb (h2 j hj).2⟩⟩
end Ve
end Go.Proofs.YtjhlkjgijbobcaaGreatDoor
namespace Go.Proofs.YtjhlkjgijbobcaaGreatDoor
open Go.RowKit
namespace Ve
theorem modSame (p v q u : ByteArray) (w : World) : (Op.equalIn 10000 26 (.agg #[.string p, .string v]) (.agg #[.string q, .string u])).run Tryz.prog w = .ok (decide (p = q ∧ v = u)) w := by
  have u3 := Tryz.underlying9
  have a3 := Tryz.isAgg9
  have z3 := Tryz.sizeOf9
  have hS : Tryz.prog.underlying 26 = some (.struct (Tryz.prog.fieldsOf 26)) := by kernel_rfl
  have hp : Tryz.prog.stoodInHeld 26 = false := by kernel_rfl
  rw [show (10000 : Nat) = 9999 + 1 from rfl, run_equalIn_agg w 9999 26 _ _ hS hp]
  simp only [Program.fieldsOf, Tryz.underlying26]
  by_cases h1 : p = q
  · subst h1
    by_cases h2 : v = u
    · subst h2
      have e1 := str_refl p
      have e2 := str_refl v
      go_simp
    · have e1 := str_refl p
      have e2 := str_ne h2
      go_simp
  · have e1 := str_ne h1
    go_simp
theorem modEql (p v q u : ByteArray) (w : World) : (binOp .eql 26 (.agg #[.string p, .string v]) (.agg #[.string q, .string u])).run Tryz.prog w = .ok (.bool (decide (p = q ∧ v = u))) w := by
  rw [run_eql_struct, modSame]; rfl
theorem modNeq (p v q u : ByteArray) (w : World) : (binOp .neq 26 (.agg #[.string p, .string v]) (.agg #[.string q, .string u])).run Tryz.prog w = .ok (.bool (!decide (p = q ∧ v = u))) w := by
  rw [run_neq_struct, modSame]; rfl
theorem modGuard : Tryz.prog.eqGuardType Tryz.prog.depth 26 = false := by kernel_rfl
end Ve
end Go.Proofs.YtjhlkjgijbobcaaGreatDoor
namespace Go.Proofs.YtjhlkjgijbobcaaGreatDoor
namespace Ve
end Ve
end Go.Proofs.YtjhlkjgijbobcaaGreatDoor
namespace Go.Proofs.YtjhlkjgijbobcaaGreatDoor
open Go.RowKit
namespace Ve
theorem below_drawn_of {B : Nat} {a w : World} (h : Below B a w) (q : Nat) : Below B a (w.drewN q) := ⟨h.os, h.tape, h.output, h.size, h.block⟩
def ErrAt (W : World) (A : Nat → Addr) (v : Value) (c : Nat) (o : Option Nat) : Prop := match o with
  | none => v = errA A c
  | some i => c ≠ 0 ∧ ∃ b, v = .iface 80 (.pointer (some ⟨b, 0, none⟩)) ∧ W.cell? ⟨b, 0, none⟩ = some (.int .i64 i) ∧ W.cell? ⟨b, 1, none⟩ = some (errA A c)
theorem ErrAt.below {W W' : World} {A : Nat → Addr} {v : Value} {c : Nat} {o : Option Nat} (h : ErrAt W A v c o) (hb : Below W.heap.size W W') : ErrAt W' A v c o := by
  cases o with
  | none => exact h
  | some i =>
    obtain ⟨h0, b, h1, h2, h3⟩ := h
    exact ⟨h0, b, h1, cell_below hb h2, cell_below hb h3⟩
def codeE (E : Nat → Nat) (n : Nat) : Nat := match fstE E n with
  | none => 0
  | some i => E i
theorem codeE_none {E : Nat → Nat} {n : Nat} (h : fstE E n = none) : codeE E n = 0 := by unfold codeE; rw [h]
theorem codeE_some {E : Nat → Nat} {n i : Nat} (h : fstE E n = some i) : codeE E n = E i := by unfold codeE; rw [h]
theorem errA_if (A : Nat → Addr) {c : Nat} (h : c ≠ 0) : errA A c = .iface 201 (.pointer (some (A (c - 1)))) := by unfold errA; rw [if_neg h]
theorem fault_at {w1 : World} {A : Nat → Addr} {i c : Nat} (hc : c ≠ 0) (T : TypeId) : ErrAt (w1.alloc (.cells #[.int .i64 i, .iface 201 (.pointer (some (A (c - 1))))] T)) A (.iface 80 (.pointer (some ⟨w1.heap.size, 0, none⟩))) c (some i) :=
  ⟨hc, w1.heap.size, rfl, by simp, by rw [errA_if A hc]; simp⟩
set_option maxHeartbeats 1000000 in
theorem first_mods (K : Nat) (cb : Array Value) (E : Nat → Nat) (L : List Bm) (b o c : Nat) (A : Nat → Addr) (w : World) (eg : ∀ args w, (callFunc K args).run Tryz.prog w = .ok (.enter K args) w) (hL : L.length ≤ 1000000)
    (hc : ∀ j (h : j < L.length), w.cell? ⟨b, o + j * 2, none⟩ = some (.string L[j].1) ∧ w.cell? ⟨b, o + j * 2 + 1, none⟩ = some (.string L[j].2))
    (hK : ∀ i (h : i < L.length) W, Below w.heap.size w W → Calls Tryz.prog K (#[.int .i64 (i : Int), .agg #[.string L[i].1, .string L[i].2]] ++ cb) W fun e w' => e = .returned (errA A (E i)) ∧ Below W.heap.size W w') :
    Calls Tryz.prog 48 #[.slice (some ⟨b, o, none⟩) L.length c, .func (.func K) #[] cb] w fun e w' => ∃ v, e = .returned v ∧ ErrAt w' A v (codeE E L.length) (fstE E L.length) ∧ Below w.heap.size w w' := by
  have HK := hid hK
  have HC := hid hc
  clear hK hc
  go_enter Tryz.func48, Tryz.ntmps48
  go_wp2_with fail
  go_loopw [10] (fun i wr => ∃ k : Nat, k ≤ L.length ∧ i = .int .i64 k ∧ Hid (∀ j, j < k → E j = 0) ∧ Hid (Below w.heap.size w wr)) (fun i _ => L.length - (intOf i).toNat)
  case atStart => exact ⟨0, Nat.zero_le _, rfl, hid (fun j hj => absurd hj (by omega)), hid (Below.refl _ _)⟩
  case round =>
    obtain ⟨k, hk, rfl, HE, HB⟩ := hrel
    by_cases hlt : k < L.length
    · have hx := cell_below HB.out (HC.out k hlt).1
      have hy := cell_below HB.out (HC.out k hlt).2
      have HBa := hid (HB.out.alloc HB.out.size (.cells #[.string L[k].1, .string L[k].2] 26))
      have HP := hid (HK.out k hlt _ HBa.out)
      by_cases h0 : E k = 0
      · rw [h0, errA0] at HP
        go_wp2_with fail
        refine HP.out.mono ?_
        rintro e w1 ⟨rfl, hb1⟩
        have HB1 := hid (HBa.out.trans (hb1.mono HBa.out.size))
        clear hb1
        go_wp2_with fail
        go_roundw
        case rel => exact ⟨k + 1, by omega, by go_num, hid (fun j hj => by
          rcases Nat.lt_or_ge j k with h | h
          · exact HE.out j h
          · have : j = k := by omega
            rw [this]; exact h0), HB1⟩
        case measure => simp [intOf]; omega
      · rw [errA_if A h0] at HP
        have HF := hid (fstE_some HE.out h0 hlt)
        have H0 := hid h0
        clear h0
        go_wp2_with fail
        refine HP.out.mono ?_
        rintro e w1 ⟨rfl, hb1⟩
        have HB1 := hid (HBa.out.trans (hb1.mono HBa.out.size))
        clear hb1
        go_wp2_with fail
        go_ret
        refine ⟨_, rfl, ?_, HB1.out.alloc HB1.out.size _⟩
        rw [codeE_some HF.out, HF.out]
        exact fault_at H0.out _
    · have HF := hid (fstE_none (E := E) (n := L.length) (fun j hj => HE.out j (by omega)))
      go_wp2_with fail
      go_ret
      refine ⟨_, rfl, ?_, HB.out⟩
      rw [codeE_none HF.out, HF.out]
      rfl
theorem first_none (K : Nat) (cb : Array Value) (E : Nat → Nat) (a : Option Addr) (c : Nat) (A : Nat → Addr) (w : World) :
    Calls Tryz.prog 48 #[.slice a 0 c, .func (.func K) #[] cb] w fun e w' => ∃ v, e = .returned v ∧ ErrAt w' A v (codeE E 0) (fstE E 0) ∧ Below w.heap.size w w' := by
  go_enter Tryz.func48, Tryz.ntmps48
  go_wp2_with fail
  go_loopw [10] (fun i wr => i = .int .i64 0 ∧ wr = w) (fun i _ => 0)
  case atStart => exact ⟨rfl, rfl⟩
  case round =>
    obtain ⟨rfl, rfl⟩ := hrel
    go_wp2_with fail
    go_ret
    exact ⟨_, rfl, rfl, Below.refl _ _⟩
theorem first_any (K : Nat) (cb : Array Value) (E : Nat → Nat) (L : List Bm) (v : Value) (A : Nat → Addr) (w : World) (eg : ∀ args w, (callFunc K args).run Tryz.prog w = .ok (.enter K args) w) (hL : L.length ≤ 1000000) (hv : MsAt w v L)
    (hK : ∀ i (h : i < L.length) W, Below w.heap.size w W → Calls Tryz.prog K (#[.int .i64 (i : Int), .agg #[.string L[i].1, .string L[i].2]] ++ cb) W fun e w' => e = .returned (errA A (E i)) ∧ Below W.heap.size W w') :
    Calls Tryz.prog 48 #[v, .func (.func K) #[] cb] w fun e w' => ∃ u, e = .returned u ∧ ErrAt w' A u (codeE E L.length) (fstE E L.length) ∧ Below w.heap.size w w' := by
  obtain ⟨a, c, rfl, _, h⟩ := hv
  cases L with
  | nil => exact first_none K cb E a c A w
  | cons x r =>
    obtain ⟨b, o, rfl, h2⟩ := h (by simp)
    exact first_mods K cb E (x :: r) b o c A w eg hL h2 hK
end Ve
end Go.Proofs.YtjhlkjgijbobcaaGreatDoor
namespace Go.Proofs.YtjhlkjgijbobcaaGreatDoor
open Go.RowKit
namespace Ve
def cutAfter (c : UInt8) : List UInt8 → List (List UInt8)
  | [] => [[]]
  | b :: l => if b = c then [c] :: cutAfter c l else ahead b (cutAfter c l)
theorem splitK_ahead1 (b c : UInt8) (h : b ≠ c) (k : Nat) (l : List UInt8) : Lib.splitK [c] 1 k (b :: l) = ahead b (Lib.splitK [c] 1 k l) := by
  cases k with
  | zero => rfl
  | succ k =>
    have hge := Lib.index_ge l [c]
    unfold Lib.splitK
    rw [index_cons_ne b c l h]
    by_cases e : Lib.index l [c] = -1
    · rw [e]; rfl
    · obtain ⟨i, hi⟩ : ∃ i : Nat, Lib.index l [c] = i := ⟨(Lib.index l [c]).toNat, by omega⟩
      rw [hi]
      have e1 : ((i : Int) == -1) = false := by simp
      have e2 : ((i : Int) + 1 == -1) = false := by simp; omega
      have e3 : ((i : Int) + 1).toNat = i + 1 := by omega
      simp [e1, e2, e3, ahead]
theorem splitK_cutAfter (c : UInt8) (l : List UInt8) : Lib.splitK [c] 1 (Lib.count l [c]) l = cutAfter c l := by
  induction l with
  | nil => simp [Lib.count_one, Lib.splitK, cutAfter]
  | cons b l ih =>
    by_cases h : b = c
    · subst h
      rw [Lib.count_cons_eq, Nat.add_comm]
      unfold Lib.splitK
      rw [index_cons_eq]
      simp only [cutAfter, if_true]
      simpa using ih
    · rw [Lib.count_cons_ne b c l h, splitK_ahead1 b c h, ih]
      simp [cutAfter, h]
theorem bl_after (c : UInt8) (s : ByteArray) : bl (Lib.splitB ⟨#[c]⟩ 1 (Lib.countB s ⟨#[c]⟩) s) = cutAfter c s.data.toList := by
  unfold bl
  rw [Lib.splitB_data]
  exact splitK_cutAfter c s.data.toList
def addEnds (c : UInt8) : List (List UInt8) → List (List UInt8)
  | [] => []
  | [x] => [x]
  | x :: y :: r => (x ++ [c]) :: addEnds c (y :: r)
theorem ahead_ends (b c : UInt8) : ∀ l : List (List UInt8), l ≠ [] → ahead b (addEnds c l) = addEnds c (ahead b l)
  | [], h => absurd rfl h
  | [_], _ => rfl
  | _ :: _ :: _, _ => rfl
theorem after_ends (c : UInt8) : ∀ l : List UInt8, cutAfter c l = addEnds c (cutAt c l)
  | [] => rfl
  | b :: l => by
    have ih := after_ends c l
    unfold cutAfter cutAt
    by_cases h : b = c
    · rw [if_pos h, if_pos h, ih]
      cases e : cutAt c l with
      | nil => exact absurd e (cutAt_ne c l)
      | cons y r => rfl
    · rw [if_neg h, if_neg h, ih, ahead_ends b c _ (cutAt_ne c l)]
theorem ends_len (c : UInt8) : ∀ l : List (List UInt8), (addEnds c l).length = l.length
  | [] => rfl
  | [x] => rfl
  | x :: y :: r => by simp only [addEnds, List.length_cons]; rw [ends_len c (y :: r)]; rfl
theorem ends_get (c : UInt8) : ∀ (l : List (List UInt8)) (j : Nat) (h : j < l.length), (addEnds c l)[j]? = some (if j + 1 < l.length then l[j] ++ [c] else l[j])
  | [], _, h => absurd h (Nat.not_lt_zero _)
  | [x], 0, _ => rfl
  | [x], j + 1, h => by simp at h
  | x :: y :: r, 0, _ => by simp [addEnds]
  | x :: y :: r, j + 1, h => by
    have := ends_get c (y :: r) j (by simpa using h)
    simp only [addEnds, List.getElem?_cons_succ, List.getElem_cons_succ]
    rw [this]
    simp
theorem cut_no (c : UInt8) : ∀ (l : List UInt8) (p : List UInt8), p ∈ cutAt c l → c ∉ p
  | [], p, h => by simp [cutAt] at h; simp [h]
  | b :: l, p, h => by
    have ih := cut_no c l
    unfold cutAt at h
    by_cases e : b = c
    · rw [if_pos e] at h
      rcases List.mem_cons.1 h with h | h
      · simp [h]
      · exact ih p h
    · rw [if_neg e] at h
      cases e2 : cutAt c l with
      | nil => exact absurd e2 (cutAt_ne c l)
      | cons y r =>
        rw [e2] at h ih
        have h : p ∈ (b :: y) :: r := h
        rcases List.mem_cons.1 h with h | h
        · rw [h]
          intro hm
          rcases List.mem_cons.1 hm with hm | hm
          · exact e hm.symm
          · exact ih y List.mem_cons_self hm
        · exact ih p (List.mem_cons_of_mem _ h)
def stF (C : List (List UInt8)) : Nat → Fs
  | 0 => noFile
  | i + 1 => (stepF i (cutAt 32 (C.getD i [])) (stF C i)).getD (stF C i)
def lnE (C : List (List UInt8)) (i : Nat) : Nat :=
  if i + 1 < C.length then (if (stepF i (cutAt 32 (C.getD i [])) (stF C i)).isNone then 1 else 0)
  else (if i ≠ 0 ∧ C.getD i [] = [] then 0 else 1)
theorem go_from (C : List (List UInt8)) : ∀ (n i : Nat), i + n = C.length → i < C.length → (∀ j, j < i → lnE C j = 0) → readGo i (C.drop i) (stF C i) = match fstE (lnE C) C.length with
    | some k => .error k
    | none => .ok (stF C (C.length - 1)) := by
  intro n
  induction n with
  | zero => intro i h hi; omega
  | succ n ih =>
    intro i h hi h0
    rw [List.drop_eq_getElem_cons hi]
    have hd : C.getD i [] = C[i] := by simp [List.getD, List.getElem?_eq_getElem hi]
    by_cases hl : i + 1 < C.length
    · have hr : C.drop (i + 1) ≠ [] := by
        intro e
        have := congrArg List.length e
        simp at this; omega
      cases hs : stepF i (cutAt 32 C[i]) (stF C i) with
      | none =>
        have he : lnE C i = 1 := by unfold lnE; rw [if_pos hl, hd, hs]; rfl
        rw [go_bad hr hs, fstE_some h0 (by omega) hi]
      | some f =>
        have he : lnE C i = 0 := by unfold lnE; rw [if_pos hl, hd, hs]; rfl
        have hf : stF C (i + 1) = f := by rw [stF, hd, hs]; rfl
        rw [go_step hr hs, ← hf]
        exact ih (i + 1) (by omega) hl (fun j hj => by
          rcases Nat.lt_or_ge j i with h | h
          · exact h0 j h
          · have : j = i := by omega
            rw [this]; exact he)
    · have hr : C.drop (i + 1) = [] := List.drop_eq_nil_of_le (by omega)
      rw [hr]
      have hn : C.length - 1 = i := by omega
      by_cases hz : i ≠ 0 ∧ C[i] = []
      · have he : lnE C i = 0 := by unfold lnE; rw [if_neg hl, hd, if_pos hz]
        have hf : fstE (lnE C) C.length = none := fstE_none (fun j hj => by
          rcases Nat.lt_or_ge j i with h | h
          · exact h0 j h
          · have : j = i := by omega
            rw [this]; exact he)
        rw [hf, hn, readGo, if_pos ⟨hz.2, hz.1⟩]
      · have he : lnE C i = 1 := by unfold lnE; rw [if_neg hl, hd, if_neg hz]
        rw [fstE_some h0 (by omega) hi, readGo, if_neg (fun h => hz ⟨h.2, h.1⟩)]
theorem readL_is (s : List UInt8) : readL s = match fstE (lnE (cutAt 10 s)) (cutAt 10 s).length with
    | some k => .error k
    | none => .ok (stF (cutAt 10 s) ((cutAt 10 s).length - 1)) := by
  have hp : 0 < (cutAt 10 s).length := List.length_pos_iff.2 (cutAt_ne 10 s)
  have := go_from (cutAt 10 s) (cutAt 10 s).length 0 (by omega) hp (fun j hj => absurd hj (by omega))
  rw [List.drop_zero] at this
  exact this
theorem step_many {i : Nat} {ws : List (List UInt8)} {f f' : Fs} (h : stepF i ws f = some f') : f'.2.1.length + f'.2.2.length ≤ f.2.1.length + f.2.2.length + 1 := by
  unfold stepF at h
  split at h
  · split at h
    · split at h
      · simp only [Option.some.injEq] at h; subst h; simp
      · cases h
    · cases h
  · split at h
    · split at h
      · simp only [Option.some.injEq] at h; subst h; simp; omega
      · split at h
        · simp only [Option.some.injEq] at h; subst h; simp; omega
        · cases h
    · cases h
theorem st_many (C : List (List UInt8)) : ∀ i, (stF C i).2.1.length + (stF C i).2.2.length ≤ i
  | 0 => by simp [stF, noFile]
  | i + 1 => by
    have ih := st_many C i
    unfold stF
    cases h : stepF i (cutAt 32 (C.getD i [])) (stF C i) with
    | none => simp; omega
    | some f => have := step_many h; simp; omega
end Ve
end Go.Proofs.YtjhlkjgijbobcaaGreatDoor
