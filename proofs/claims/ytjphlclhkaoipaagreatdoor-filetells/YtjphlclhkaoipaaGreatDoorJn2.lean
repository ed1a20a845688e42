/-
  Files as texts, plain: the lines of a file, and how lines are read; what was written is read as it was.
-/
import Derived.Test.YtjphlclhkaoipaaGreatDoorVerCut
import Derived.Test.YtjphlclhkaoipaaGreatDoorAhead
import Derived.Deep.RegionHeld
namespace Go.Proofs.YtjphlclhkaoipaaGreatDoor
namespace Ve

/-- A module: its path, its version. -/
abbrev Bm := ByteArray × ByteArray
/-- A file: its path, what it requires, what it excludes. -/
abbrev Fs := ByteArray × List Bm × List Bm
def bt (l : List UInt8) : ByteArray := ⟨l.toArray⟩
theorem bt_list (l : List UInt8) : (bt l).data.toList = l := by simp [bt]
theorem bt_of (a : ByteArray) : bt a.data.toList = a := by cases a; simp [bt]
theorem bt_of' {a : ByteArray} {l : List UInt8} (h : a.data.toList = l) : a = bt l := by rw [← h, bt_of]
def wModule : List UInt8 := [109, 111, 100, 117, 108, 101]
def wRequire : List UInt8 := [114, 101, 113, 117, 105, 114, 101]
def wExclude : List UInt8 := [101, 120, 99, 108, 117, 100, 101]
/-- What a line's words add; none: it is wrong. -/
def stepF (i : Nat) (ws : List (List UInt8)) (f : Fs) : Option Fs :=
  if i = 0 then (match ws with
    | [a, b] => if a = wModule then some (bt b, f.2) else none
    | _ => none)
  else (match ws with
    | [a, b, c] => if a = wRequire ∧ f.2.2 = [] then some (f.1, f.2.1 ++ [(bt b, bt c)], f.2.2) else if a = wExclude then some (f.1, f.2.1, f.2.2 ++ [(bt b, bt c)]) else none
    | _ => none)
/-- Lines, from the i-th on; behind the last line end there is an empty piece. -/
def readGo : Nat → List (List UInt8) → Fs → Except Nat Fs
  | _, [], f => .ok f
  | i, [l], f => if l = [] ∧ i ≠ 0 then .ok f else .error i
  | i, l :: k :: r, f => match stepF i (cutAt 32 l) f with
    | some f' => readGo (i + 1) (k :: r) f'
    | none => .error i
def noFile : Fs := (⟨#[]⟩, [], [])
def readL (s : List UInt8) : Except Nat Fs := readGo 0 (cutAt 10 s) noFile

def lineOf (w : List UInt8) (m : Bm) : List UInt8 := w ++ 32 :: (m.1.data.toList ++ 32 :: m.2.data.toList)
def linesOf (f : Fs) : List (List UInt8) := (wModule ++ 32 :: f.1.data.toList) :: (f.2.1.map (lineOf wRequire) ++ f.2.2.map (lineOf wExclude))
def ended (ls : List (List UInt8)) : List UInt8 := ls.flatMap (fun l => l ++ [10])
def fText (f : Fs) : List UInt8 := ended (linesOf f)

theorem cut_not {c : UInt8} : ∀ {a : List UInt8}, c ∉ a → cutAt c a = [a]
  | [], _ => rfl
  | x :: a, h => by
    have h1 : x ≠ c := fun e => h (by rw [e]; exact List.mem_cons_self)
    have h2 := cut_not (c := c) (a := a) (fun e => h (List.mem_cons_of_mem _ e))
    unfold cutAt
    rw [if_neg h1, h2]; rfl
theorem cut_at {c : UInt8} (b : List UInt8) : ∀ {a : List UInt8}, c ∉ a → cutAt c (a ++ c :: b) = a :: cutAt c b
  | [], _ => by simp [cutAt]
  | x :: a, h => by
    have h1 : x ≠ c := fun e => h (by rw [e]; exact List.mem_cons_self)
    have h2 := cut_at b (c := c) (a := a) (fun e => h (List.mem_cons_of_mem _ e))
    rw [List.cons_append, cutAt, if_neg h1, h2]; rfl
theorem cut_ended : ∀ {ls : List (List UInt8)}, (∀ l, l ∈ ls → (10 : UInt8) ∉ l) → cutAt 10 (ended ls) = ls ++ [[]]
  | [], _ => rfl
  | l :: r, h => by
    have h2 := cut_ended (ls := r) (fun x hx => h x (List.mem_cons_of_mem _ hx))
    have e : ended (l :: r) = l ++ 10 :: ended r := by simp [ended]
    rw [e, cut_at _ (h l List.mem_cons_self), h2]; rfl
/-- No word of a module has a blank or a line end. -/
def clean (m : Bm) : Prop := ((10 : UInt8) ∉ m.1.data.toList ∧ (10 : UInt8) ∉ m.2.data.toList) ∧ ((32 : UInt8) ∉ m.1.data.toList ∧ (32 : UInt8) ∉ m.2.data.toList)
theorem line_words {w : List UInt8} {m : Bm} (hw : (32 : UInt8) ∉ w) (h : clean m) : cutAt 32 (lineOf w m) = [w, m.1.data.toList, m.2.data.toList] := by
  unfold lineOf
  rw [cut_at _ hw, cut_at _ h.2.1, cut_not h.2.2]
theorem line_end {w : List UInt8} {m : Bm} (hw : (10 : UInt8) ∉ w) (h : clean m) : (10 : UInt8) ∉ lineOf w m := by
  unfold lineOf
  intro hm
  rcases List.mem_append.1 hm with h1 | h1
  · exact hw h1
  · rcases List.mem_cons.1 h1 with h1 | h1
    · exact absurd h1 (by decide)
    · rcases List.mem_append.1 h1 with h1 | h1
      · exact h.1.1 h1
      · rcases List.mem_cons.1 h1 with h1 | h1
        · exact absurd h1 (by decide)
        · exact h.1.2 h1
theorem go_step {i : Nat} {l : List UInt8} {r : List (List UInt8)} {f f' : Fs} (hr : r ≠ []) (h : stepF i (cutAt 32 l) f = some f') : readGo i (l :: r) f = readGo (i + 1) r f' := by
  cases r with
  | nil => exact absurd rfl hr
  | cons k r => rw [readGo, h]
theorem go_bad {i : Nat} {l : List UInt8} {r : List (List UInt8)} {f : Fs} (hr : r ≠ []) (h : stepF i (cutAt 32 l) f = none) : readGo i (l :: r) f = .error i := by
  cases r with
  | nil => exact absurd rfl hr
  | cons k r => rw [readGo, h]
theorem go_ex {p : ByteArray} {R : List Bm} : ∀ {X Y : List Bm} {i : Nat}, i ≠ 0 → (∀ m, m ∈ X → clean m) → readGo i (X.map (lineOf wExclude) ++ [[]]) (p, R, Y) = .ok (p, R, Y ++ X)
  | [], Y, i, hi, _ => by simp [readGo, hi]
  | m :: X, Y, i, hi, h => by
    have hm := line_words (w := wExclude) (by decide) (h m List.mem_cons_self)
    have hs : stepF i (cutAt 32 (lineOf wExclude m)) (p, R, Y) = some (p, R, Y ++ [m]) := by
      rw [hm]
      unfold stepF
      rw [if_neg hi]
      simp only
      rw [if_neg (fun h => absurd h.1 (by decide)), if_pos trivial, bt_of, bt_of]
    rw [List.map_cons, List.cons_append, go_step (by simp) hs, go_ex (by omega) (fun x hx => h x (List.mem_cons_of_mem _ hx))]
    simp
theorem go_req {p : ByteArray} {X : List Bm} (hX : ∀ m, m ∈ X → clean m) : ∀ {R Q : List Bm} {i : Nat}, i ≠ 0 → (∀ m, m ∈ R → clean m) → readGo i (R.map (lineOf wRequire) ++ (X.map (lineOf wExclude) ++ [[]])) (p, Q, []) = .ok (p, Q ++ R, X)
  | [], Q, i, hi, _ => by
    rw [List.map_nil, List.nil_append, go_ex hi hX]; simp
  | m :: R, Q, i, hi, h => by
    have hm := line_words (w := wRequire) (by decide) (h m List.mem_cons_self)
    have hs : stepF i (cutAt 32 (lineOf wRequire m)) (p, Q, []) = some (p, Q ++ [m], []) := by
      rw [hm]
      unfold stepF
      rw [if_neg hi]
      simp only
      rw [if_pos ⟨trivial, trivial⟩, bt_of, bt_of]
    rw [List.map_cons, List.cons_append, go_step (by simp) hs, go_req hX (by omega) (fun x hx => h x (List.mem_cons_of_mem _ hx))]
    simp
/-- What was written is read as it was. -/
theorem read_back {f : Fs} (h1 : (10 : UInt8) ∉ f.1.data.toList ∧ (32 : UInt8) ∉ f.1.data.toList) (hR : ∀ m, m ∈ f.2.1 → clean m) (hX : ∀ m, m ∈ f.2.2 → clean m) : readL (fText f) = .ok f := by
  have hls : ∀ l, l ∈ linesOf f → (10 : UInt8) ∉ l := by
    intro l hl
    unfold linesOf at hl
    rcases List.mem_cons.1 hl with rfl | hl
    · intro hm
      rcases List.mem_append.1 hm with h | h
      · exact absurd h (by decide)
      · rcases List.mem_cons.1 h with h | h
        · exact absurd h (by decide)
        · exact h1.1 h
    · rcases List.mem_append.1 hl with h | h
      · obtain ⟨m, hm, rfl⟩ := List.mem_map.1 h
        exact line_end (by decide) (hR m hm)
      · obtain ⟨m, hm, rfl⟩ := List.mem_map.1 h
        exact line_end (by decide) (hX m hm)
  unfold readL fText
  rw [cut_ended hls]
  unfold linesOf
  have hs : stepF 0 (cutAt 32 (wModule ++ 32 :: f.1.data.toList)) noFile = some (f.1, [], []) := by
    rw [cut_at _ (by decide), cut_not h1.2]
    unfold stepF
    rw [if_pos rfl]
    simp only
    rw [if_pos trivial, bt_of]; rfl
  rw [List.cons_append, go_step (by simp) hs, List.append_assoc, go_req hX (by omega) hR]
  simp
/-- How long a file's text is. -/
theorem ended_len (n : Nat) : ∀ (ls : List (List UInt8)), (∀ l, l ∈ ls → l.length ≤ n) → (ended ls).length ≤ ls.length * (n + 1)
  | [], _ => by simp [ended]
  | l :: r, h => by
    have h1 := ended_len n r (fun x hx => h x (List.mem_cons_of_mem _ hx))
    have h2 := h l List.mem_cons_self
    have e : ended (l :: r) = l ++ 10 :: ended r := by simp [ended]
    rw [e]
    simp only [List.length_append, List.length_cons]
    rw [Nat.succ_mul]
    omega
theorem fText_len {f : Fs} (h1 : f.1.size ≤ 90) (hr : f.2.1.length ≤ 20) (hx : f.2.2.length ≤ 20) (hR : ∀ m, m ∈ f.2.1 ++ f.2.2 → m.1.size ≤ 70 ∧ m.2.size ≤ 60) : (fText f).length ≤ 8000 := by
  have h := ended_len 140 (linesOf f) (fun l hl => by
    unfold linesOf at hl
    have hsz : ∀ a : ByteArray, a.data.toList.length = a.size := fun a => by simp
    rcases List.mem_cons.1 hl with rfl | hl
    · simp [wModule]; omega
    · rcases List.mem_append.1 hl with h | h
      · obtain ⟨m, hm, rfl⟩ := List.mem_map.1 h
        have := hR m (List.mem_append_left _ hm)
        simp [lineOf, wRequire]; omega
      · obtain ⟨m, hm, rfl⟩ := List.mem_map.1 h
        have := hR m (List.mem_append_right _ hm)
        simp [lineOf, wExclude]; omega)
  have hn : (linesOf f).length ≤ 41 := by simp [linesOf]; omega
  unfold fText
  have : (linesOf f).length * (140 + 1) ≤ 41 * 141 := Nat.mul_le_mul_right _ hn
  omega
end Ve
end Go.Proofs.YtjphlclhkaoipaaGreatDoor

/-
  Files, plain: a module as two texts; what is wrong with a requirement, with what is excluded, with a file, and where.
-/
namespace Go.Proofs.YtjphlclhkaoipaaGreatDoor
open Go.RowKit
namespace Ve

def mErr (m : Bm) : Nat := modErr m.1.data.toList m.2.data.toList
def mAhead (a b : Bm) : Bool := aheadB a.1.data.toList a.2.data.toList b.1.data.toList b.2.data.toList
/-- A path that is no less than another one. -/
def noLess (a b : ByteArray) : Bool := !decide (Lib.compareBytes a.data.toList b.data.toList < 0)
/-- What is wrong with a requirement behind another one. -/
def reqW (own : ByteArray) (prev : Option Bm) (m : Bm) : Nat :=
  if mErr m = 0 then (if m.1 = own then 3 else match prev with
    | none => 0
    | some p => if noLess p.1 m.1 then 8 else 0) else mErr m
/-- What is wrong with what is excluded. -/
def exW (prev : Option Bm) (m : Bm) : Nat :=
  if mErr m = 0 then (match prev with
    | none => 0
    | some p => if mAhead p m then 0 else 8) else mErr m
/-- The one ahead. -/
def prevOf (l : List Bm) (i : Nat) : Option Bm := if i = 0 then none else l[i - 1]?
def reqE (own : ByteArray) (l : List Bm) (i : Nat) : Nat := match l[i]? with
  | none => 0
  | some m => reqW own (prevOf l i) m
def exE (l : List Bm) (i : Nat) : Nat := match l[i]? with
  | none => 0
  | some m => exW (prevOf l i) m
/-- Is a module among others? -/
def hasB (x : List Bm) (m : Bm) : Bool := x.any fun y => decide (m.1 = y.1 ∧ m.2 = y.2)
theorem hasB_iff {x : List Bm} {m : Bm} : hasB x m = true ↔ m ∈ x := by
  unfold hasB
  rw [List.any_eq_true]
  constructor
  · rintro ⟨y, hy, h⟩
    have h := of_decide_eq_true h
    have : m = y := by cases m; cases y; simp only at h; rw [h.1, h.2]
    rw [this]; exact hy
  · intro h
    exact ⟨m, h, decide_eq_true ⟨rfl, rfl⟩⟩
theorem hasB_not {x : List Bm} {m : Bm} (h : m ∉ x) : hasB x m = false := by
  cases e : hasB x m
  · rfl
  · exact absurd (hasB_iff.1 e) h
def clE (x l : List Bm) (i : Nat) : Nat := match l[i]? with
  | none => 0
  | some m => if hasB x m then 9 else 0
/-- The first place with an error. -/
def fstE (E : Nat → Nat) : Nat → Option Nat
  | 0 => none
  | n + 1 => match fstE E n with
    | some i => some i
    | none => if E n = 0 then none else some n
theorem fstE_none {E : Nat → Nat} : ∀ {n : Nat}, (∀ j, j < n → E j = 0) → fstE E n = none
  | 0, _ => rfl
  | n + 1, h => by
    unfold fstE
    rw [fstE_none (n := n) (fun j hj => h j (by omega)), if_pos (h n (by omega))]
theorem fstE_some {E : Nat → Nat} {i : Nat} (h0 : ∀ j, j < i → E j = 0) (hi : E i ≠ 0) : ∀ {n : Nat}, i < n → fstE E n = some i
  | 0, h => by omega
  | n + 1, h => by
    unfold fstE
    rcases Nat.lt_or_ge i n with hh | hh
    · rw [fstE_some h0 hi hh]
    · have : i = n := by omega
      subst this
      rw [fstE_none h0]
      simp only
      rw [if_neg hi]
theorem fstE_of_none {E : Nat → Nat} : ∀ {n : Nat}, fstE E n = none → ∀ j, j < n → E j = 0
  | 0, _, j, hj => by omega
  | n + 1, h, j, hj => by
    unfold fstE at h
    cases h1 : fstE E n with
    | some i => rw [h1] at h; cases h
    | none =>
      rw [h1] at h
      simp only at h
      by_cases h2 : E n = 0
      · rcases Nat.lt_or_ge j n with hh | hh
        · exact fstE_of_none h1 j hh
        · have : j = n := by omega
          rw [this]; exact h2
      · rw [if_neg h2] at h; cases h
theorem fstE_of_some {E : Nat → Nat} {i : Nat} : ∀ {n : Nat}, fstE E n = some i → i < n ∧ E i ≠ 0 ∧ ∀ j, j < i → E j = 0
  | 0, h => by cases h
  | n + 1, h => by
    unfold fstE at h
    cases h1 : fstE E n with
    | some k =>
      rw [h1] at h
      obtain ⟨a, b, c⟩ := fstE_of_some h1
      simp only [Option.some.injEq] at h
      subst h
      exact ⟨by omega, b, c⟩
    | none =>
      rw [h1] at h
      simp only at h
      by_cases h2 : E n = 0
      · rw [if_pos h2] at h; cases h
      · rw [if_neg h2] at h
        simp only [Option.some.injEq] at h
        subst h
        exact ⟨by omega, h2, fstE_of_none h1⟩
/-- What is wrong with a file: a number, and where. -/
def fileF (p : ByteArray) (R X : List Bm) : Nat × Option Nat :=
  if pathErr p.data.toList = 0 then
    (if 20 < R.length ∨ 20 < X.length then (7, none)
     else match fstE (reqE p R) R.length with
      | some i => (reqE p R i, some i)
      | none => match fstE (exE X) X.length with
        | some i => (exE X i, some i)
        | none => match fstE (clE X R) R.length with
          | some i => (9, some i)
          | none => (0, none))
  else (pathErr p.data.toList, none)

/-- Modules lie in a slice. -/
def MsAt (w : World) (v : Value) (L : List Bm) : Prop :=
  ∃ (a : Option Addr) (c : Nat), v = .slice a L.length c ∧ L.length ≤ c ∧ (L ≠ [] → ∃ b o, a = some ⟨b, o, none⟩ ∧ ∀ j (h : j < L.length), w.cell? ⟨b, o + j * 2, none⟩ = some (.string L[j].1) ∧ w.cell? ⟨b, o + j * 2 + 1, none⟩ = some (.string L[j].2))
theorem MsAt.below {w w' : World} {v : Value} {L : List Bm} (h : MsAt w v L) (hb : Below w.heap.size w w') : MsAt w' v L := by
  obtain ⟨a, c, e, hc, h⟩ := h
  refine ⟨a, c, e, hc, fun hL => ?_⟩
  obtain ⟨b, o, e2, h2⟩ := h hL
  exact ⟨b, o, e2, fun j hj => ⟨cell_below hb (h2 j hj).1, cell_below hb (h2 j hj).2⟩⟩
end Ve
end Go.Proofs.YtjphlclhkaoipaaGreatDoor

/-
  What place.First answers over modules: the first error, with its place, or none; nothing old in memory turns.
-/
namespace Go.Proofs.YtjphlclhkaoipaaGreatDoor
open Go.RowKit
namespace Ve

theorem below_drawn_of {B : Nat} {a w : World} (h : Below B a w) (q : Nat) : Below B a (w.drewN q) := ⟨h.os, h.tape, h.output, h.size, h.block⟩
/-- An error with its place, or without one. -/
def ErrAt (W : World) (A : Nat → Addr) (v : Value) (c : Nat) (o : Option Nat) : Prop := match o with
  | none => v = errA A c
  | some i => c ≠ 0 ∧ ∃ b, v = .iface 79 (.pointer (some ⟨b, 0, none⟩)) ∧ W.cell? ⟨b, 0, none⟩ = some (.int .i64 i) ∧ W.cell? ⟨b, 1, none⟩ = some (errA A c)
theorem ErrAt.below {W W' : World} {A : Nat → Addr} {v : Value} {c : Nat} {o : Option Nat} (h : ErrAt W A v c o) (hb : Below W.heap.size W W') : ErrAt W' A v c o := by
  cases o with
  | none => exact h
  | some i =>
    obtain ⟨h0, b, h1, h2, h3⟩ := h
    exact ⟨h0, b, h1, cell_below hb h2, cell_below hb h3⟩
/-- The number of the first error. -/
def codeE (E : Nat → Nat) (n : Nat) : Nat := match fstE E n with
  | none => 0
  | some i => E i
theorem codeE_none {E : Nat → Nat} {n : Nat} (h : fstE E n = none) : codeE E n = 0 := by unfold codeE; rw [h]
theorem codeE_some {E : Nat → Nat} {n i : Nat} (h : fstE E n = some i) : codeE E n = E i := by unfold codeE; rw [h]
theorem errA_if (A : Nat → Addr) {c : Nat} (h : c ≠ 0) : errA A c = .iface 200 (.pointer (some (A (c - 1)))) := by unfold errA; rw [if_neg h]

theorem fault_at {w1 : World} {A : Nat → Addr} {i c : Nat} (hc : c ≠ 0) (T : TypeId) : ErrAt (w1.alloc (.cells #[.int .i64 i, .iface 200 (.pointer (some (A (c - 1))))] T)) A (.iface 79 (.pointer (some ⟨w1.heap.size, 0, none⟩))) c (some i) :=
  ⟨hc, w1.heap.size, rfl, by simp, by rw [errA_if A hc]; simp⟩

set_option maxHeartbeats 1000000 in
theorem first_mods (K : Nat) (cb : Array Value) (E : Nat → Nat) (L : List Bm) (b o c : Nat) (A : Nat → Addr) (w : World) (eg : ∀ args w, (callFunc K args).run Tryz.prog w = .ok (.enter K args) w) (hL : L.length ≤ 1000000)
    (hc : ∀ j (h : j < L.length), w.cell? ⟨b, o + j * 2, none⟩ = some (.string L[j].1) ∧ w.cell? ⟨b, o + j * 2 + 1, none⟩ = some (.string L[j].2))
    (hK : ∀ i (h : i < L.length) W, Below w.heap.size w W → Calls Tryz.prog K (#[.int .i64 (i : Int), .agg #[.string L[i].1, .string L[i].2]] ++ cb) W fun e w' => e = .returned (errA A (E i)) ∧ Below W.heap.size W w') :
    Calls Tryz.prog 47 #[.slice (some ⟨b, o, none⟩) L.length c, .func (.func K) #[] cb] w fun e w' => ∃ v, e = .returned v ∧ ErrAt w' A v (codeE E L.length) (fstE E L.length) ∧ Below w.heap.size w w' := by
  have HK := hid hK
  have HC := hid hc
  clear hK hc
  go_enter Tryz.func47, Tryz.ntmps47
  go_wp2_with fail
  go_loopw [10] (fun i wr => ∃ k : Nat, k ≤ L.length ∧ i = .int .i64 k ∧ Hid (∀ j, j < k → E j = 0) ∧ Hid (Below w.heap.size w wr)) (fun i _ => L.length - (intOf i).toNat)
  case atStart => exact ⟨0, Nat.zero_le _, rfl, hid (fun j hj => absurd hj (by omega)), hid (Below.refl _ _)⟩
  case round =>
    obtain ⟨k, hk, rfl, HE, HB⟩ := hrel
    by_cases hlt : k < L.length
    · have hx := cell_below HB.out (HC.out k hlt).1
      have hy := cell_below HB.out (HC.out k hlt).2
      have HBa := hid (HB.out.alloc HB.out.size (.cells #[.string L[k].1, .string L[k].2] 26))
      have HP := hid (HK.out k hlt _ HBa.out)
      by_cases h0 : E k = 0
      · rw [h0, errA0] at HP
        go_wp2_with fail
        refine HP.out.mono ?_
        rintro e w1 ⟨rfl, hb1⟩
        have HB1 := hid (HBa.out.trans (hb1.mono HBa.out.size))
        clear hb1
        go_wp2_with fail
        go_roundw
        case rel => exact ⟨k + 1, by omega, by go_num, hid (fun j hj => by
          rcases Nat.lt_or_ge j k with h | h
          · exact HE.out j h
          · have : j = k := by omega
            rw [this]; exact h0), HB1⟩
        case measure => simp [intOf]; omega
      · rw [errA_if A h0] at HP
        have HF := hid (fstE_some HE.out h0 hlt)
        have H0 := hid h0
        clear h0
        go_wp2_with fail
        refine HP.out.mono ?_
        rintro e w1 ⟨rfl, hb1⟩
        have HB1 := hid (HBa.out.trans (hb1.mono HBa.out.size))
        clear hb1
        go_wp2_with fail
        go_ret
        refine ⟨_, rfl, ?_, HB1.out.alloc HB1.out.size _⟩
        rw [codeE_some HF.out, HF.out]
        exact fault_at H0.out _
    · have HF := hid (fstE_none (E := E) (n := L.length) (fun j hj => HE.out j (by omega)))
      go_wp2_with fail
      go_ret
      refine ⟨_, rfl, ?_, HB.out⟩
      rw [codeE_none HF.out, HF.out]
      rfl

theorem first_none (K : Nat) (cb : Array Value) (E : Nat → Nat) (a : Option Addr) (c : Nat) (A : Nat → Addr) (w : World) :
    Calls Tryz.prog 47 #[.slice a 0 c, .func (.func K) #[] cb] w fun e w' => ∃ v, e = .returned v ∧ ErrAt w' A v (codeE E 0) (fstE E 0) ∧ Below w.heap.size w w' := by
  go_enter Tryz.func47, Tryz.ntmps47
  go_wp2_with fail
  go_loopw [10] (fun i wr => i = .int .i64 0 ∧ wr = w) (fun i _ => 0)
  case atStart => exact ⟨rfl, rfl⟩
  case round =>
    obtain ⟨rfl, rfl⟩ := hrel
    go_wp2_with fail
    go_ret
    exact ⟨_, rfl, rfl, Below.refl _ _⟩
/-- place.First over modules. -/
theorem first_any (K : Nat) (cb : Array Value) (E : Nat → Nat) (L : List Bm) (v : Value) (A : Nat → Addr) (w : World) (eg : ∀ args w, (callFunc K args).run Tryz.prog w = .ok (.enter K args) w) (hL : L.length ≤ 1000000) (hv : MsAt w v L)
    (hK : ∀ i (h : i < L.length) W, Below w.heap.size w W → Calls Tryz.prog K (#[.int .i64 (i : Int), .agg #[.string L[i].1, .string L[i].2]] ++ cb) W fun e w' => e = .returned (errA A (E i)) ∧ Below W.heap.size W w') :
    Calls Tryz.prog 47 #[v, .func (.func K) #[] cb] w fun e w' => ∃ u, e = .returned u ∧ ErrAt w' A u (codeE E L.length) (fstE E L.length) ∧ Below w.heap.size w w' := by
  obtain ⟨a, c, rfl, _, h⟩ := hv
  cases L with
  | nil => exact first_none K cb E a c A w
  | cons x r =>
    obtain ⟨b, o, rfl, h2⟩ := h (by simp)
    exact first_mods K cb E (x :: r) b o c A w eg hL h2 hK
end Ve
end Go.Proofs.YtjphlclhkaoipaaGreatDoor

/-
  What CheckReqs of package mod and checkExclude of package file answer; nothing old in memory turns.
-/
namespace Go.Proofs.YtjphlclhkaoipaaGreatDoor
open Go.RowKit
namespace Ve

theorem reqW_bad {own : ByteArray} {o : Option Bm} {m : Bm} (h : mErr m ≠ 0) : reqW own o m = mErr m := by unfold reqW; rw [if_neg h]
theorem reqW_own {own : ByteArray} {o : Option Bm} {m : Bm} (h : mErr m = 0) (h2 : m.1 = own) : reqW own o m = 3 := by unfold reqW; rw [if_pos h, if_pos h2]
theorem reqW_none {own : ByteArray} {m : Bm} (h : mErr m = 0) (h2 : ¬ m.1 = own) : reqW own none m = 0 := by unfold reqW; rw [if_pos h, if_neg h2]
theorem reqW_some {own : ByteArray} {p m : Bm} (h : mErr m = 0) (h2 : ¬ m.1 = own) : reqW own (some p) m = if noLess p.1 m.1 then 8 else 0 := by unfold reqW; rw [if_pos h, if_neg h2]
theorem noLess_is (a b : ByteArray) : (!Op.bytesLess a.toList b.toList) = noLess a b := by unfold noLess; rw [cb_less, ByteArray.toList_eq, ByteArray.toList_eq]

set_option maxHeartbeats 1000000 in
/-- A requirement whose module is wrong, or whose path is its own. -/
theorem reqK_bad (i : Int) (p v own : ByteArray) (b1 : Nat) (x : Value) (pr : Option Bm) (A : Nat → Addr) (m : Int) (W : World) (hp : p.size < 999999) (hv : v.size < 999999) (S : Te W A m) (h : mErr (p, v) ≠ 0) :
    Calls Tryz.prog 48 #[.int .i64 i, .agg #[.string p, .string v], .pointer (some ⟨b1, 0, none⟩), x] W fun e w' => e = .returned (errA A (reqW own pr (p, v))) ∧ Below W.heap.size W w' := by
  rw [reqW_bad h, errA_if A h]
  have HB0 := hid ((Below.refl W.heap.size W).alloc (Nat.le_refl _) (.cells #[.string p, .string v] 26))
  have HC := hid (mcheck_any p v A m _ (by omega) (by omega) (S.below HB0.out))
  rw [show modErr p.data.toList v.data.toList = mErr (p, v) from rfl, errA_if A h] at HC
  clear S h
  go_enter Tryz.func48, Tryz.ntmps48
  go_wp2_with fail
  refine HC.out.mono ?_
  rintro e w1 ⟨rfl, hb⟩
  have HB := hid (HB0.out.trans (hb.mono HB0.out.size))
  clear hb
  go_wp2_with fail
  go_ret
  exact ⟨rfl, HB.out⟩

set_option maxHeartbeats 1000000 in
theorem reqK_own (i : Int) (p v own : ByteArray) (b1 : Nat) (x : Value) (pr : Option Bm) (A : Nat → Addr) (m : Int) (W : World) (hp : p.size < 999999) (hv : v.size < 999999) (S : Te W A m) (h1 : W.cell? ⟨b1, 0, none⟩ = some (.string own)) (h : mErr (p, v) = 0) (ho : p = own) :
    Calls Tryz.prog 48 #[.int .i64 i, .agg #[.string p, .string v], .pointer (some ⟨b1, 0, none⟩), x] W fun e w' => e = .returned (errA A (reqW own pr (p, v))) ∧ Below W.heap.size W w' := by
  rw [reqW_own h ho, errA_if A (by omega)]
  have HB0 := hid ((Below.refl W.heap.size W).alloc (Nat.le_refl _) (.cells #[.string p, .string v] 26))
  have HS := hid (S.below HB0.out)
  have HC := hid (mcheck_any p v A m _ (by omega) (by omega) HS.out)
  rw [show modErr p.data.toList v.data.toList = mErr (p, v) from rfl, h, errA0] at HC
  have H1 := hid h1
  clear S h h1
  subst ho
  have he := str_refl p
  go_enter Tryz.func48, Tryz.ntmps48
  go_wp2_with fail
  refine HC.out.mono ?_
  rintro e w1 ⟨rfl, hb⟩
  obtain ⟨⟨r0, r1⟩, rz⟩ := res2 (hb.mono (by simp))
  have HB := hid (HB0.out.trans (hb.mono HB0.out.size))
  have c1 := cell_below HB.out H1.out
  have g := (HS.out.below hb).sen.g2
  clear hb
  go_wp2_with fail
  go_ret
  exact ⟨rfl, HB.out⟩

set_option maxHeartbeats 1000000 in
theorem reqK_0 (p v own : ByteArray) (b1 : Nat) (x : Value) (A : Nat → Addr) (m : Int) (W : World) (hp : p.size < 999999) (hv : v.size < 999999) (S : Te W A m) (h1 : W.cell? ⟨b1, 0, none⟩ = some (.string own)) (h : mErr (p, v) = 0) (ho : ¬ p = own) :
    Calls Tryz.prog 48 #[.int .i64 0, .agg #[.string p, .string v], .pointer (some ⟨b1, 0, none⟩), x] W fun e w' => e = .returned (errA A (reqW own none (p, v))) ∧ Below W.heap.size W w' := by
  rw [reqW_none h ho, errA0]
  have HB0 := hid ((Below.refl W.heap.size W).alloc (Nat.le_refl _) (.cells #[.string p, .string v] 26))
  have HS := hid (S.below HB0.out)
  have HC := hid (mcheck_any p v A m _ (by omega) (by omega) HS.out)
  rw [show modErr p.data.toList v.data.toList = mErr (p, v) from rfl, h, errA0] at HC
  have H1 := hid h1
  clear S h h1
  have he := str_ne ho
  clear ho
  go_enter Tryz.func48, Tryz.ntmps48
  go_wp2_with fail
  refine HC.out.mono ?_
  rintro e w1 ⟨rfl, hb⟩
  obtain ⟨⟨r0, r1⟩, rz⟩ := res2 (hb.mono (by simp))
  have HB := hid (HB0.out.trans (hb.mono HB0.out.size))
  have c1 := cell_below HB.out H1.out
  clear hb
  go_wp2_with fail
  go_quiet (fail)
  go_wp2_with fail
  go_ret
  exact ⟨rfl, below_drawn_of HB.out _⟩

set_option maxHeartbeats 1000000 in
theorem reqK_1 (k : Nat) (p v q u own : ByteArray) (b1 b2 b o n c : Nat) (A : Nat → Addr) (m : Int) (W : World) (hp : p.size < 999999) (hv : v.size < 999999) (S : Te W A m) (h1 : W.cell? ⟨b1, 0, none⟩ = some (.string own)) (h : mErr (p, v) = 0) (ho : ¬ p = own)
    (h2 : W.cell? ⟨b2, 0, none⟩ = some (.slice (some ⟨b, o, none⟩) n c)) (hk : k < n) (hn : n ≤ 1000000) (h3 : W.cell? ⟨b, o + k * 2, none⟩ = some (.string q)) :
    Calls Tryz.prog 48 #[.int .i64 ((k : Int) + 1), .agg #[.string p, .string v], .pointer (some ⟨b1, 0, none⟩), .pointer (some ⟨b2, 0, none⟩)] W fun e w' => e = .returned (errA A (reqW own (some (q, u)) (p, v))) ∧ Below W.heap.size W w' := by
  rw [reqW_some h ho]
  have hge : ∀ X : World, (binOp BinOp.geq 9 (.string q) (.string p)).run Tryz.prog X = .ok (.bool (noLess q p)) X := fun X => by rw [← noLess_is]; rfl
  have HB0 := hid ((Below.refl W.heap.size W).alloc (Nat.le_refl _) (.cells #[.string p, .string v] 26))
  have HS := hid (S.below HB0.out)
  have HC := hid (mcheck_any p v A m _ (by omega) (by omega) HS.out)
  rw [show modErr p.data.toList v.data.toList = mErr (p, v) from rfl, h, errA0] at HC
  have H1 := hid h1
  have H2 := hid h2
  have H3 := hid h3
  clear S h h1 h2 h3
  have he := str_ne ho
  clear ho
  have g1 : (0 : Int) ≤ (k : Int) := by omega
  have g2 : (k : Int) < (n : Int) := by omega
  have g3 : (k : Int) + 1 - 1 = (k : Int) := by omega
  have g4 : (0 : Int) < (k : Int) + 1 := by omega
  have gw : IntKind.i64.wrap (k : Int) = (k : Int) := by rw [IntKind.wrap_i64]; omega
  cases hz : noLess q p
  · rw [hz] at hge
    rw [if_neg (by simp), errA0]
    go_enter Tryz.func48, Tryz.ntmps48
    go_wp2_with fail
    refine HC.out.mono ?_
    rintro e w1 ⟨rfl, hb⟩
    obtain ⟨⟨r0, r1⟩, rz⟩ := res2 (hb.mono (by simp))
    have HB := hid (HB0.out.trans (hb.mono HB0.out.size))
    have c1 := cell_below HB.out H1.out
    have c2 := cell_below HB.out H2.out
    have c3 := cell_below HB.out H3.out
    clear hb
    go_wp2_with fail
    go_quiet (fail)
    go_wp2_with fail
    go_ret
    exact ⟨rfl, below_drawn_of HB.out _⟩
  · rw [hz] at hge
    rw [if_pos rfl, errA_if A (by omega)]
    go_enter Tryz.func48, Tryz.ntmps48
    go_wp2_with fail
    refine HC.out.mono ?_
    rintro e w1 ⟨rfl, hb⟩
    obtain ⟨⟨r0, r1⟩, rz⟩ := res2 (hb.mono (by simp))
    have HB := hid (HB0.out.trans (hb.mono HB0.out.size))
    have c1 := cell_below HB.out H1.out
    have c2 := cell_below HB.out H2.out
    have c3 := cell_below HB.out H3.out
    have gg := (HS.out.below hb).sen.g7
    clear hb
    go_wp2_with fail
    go_quiet (fail)
    go_wp2_with fail
    go_ret
    exact ⟨rfl, below_drawn_of HB.out _⟩
end Ve
end Go.Proofs.YtjphlclhkaoipaaGreatDoor

/-
  What CheckReqs of package mod and checkExclude of package file answer; nothing old in memory turns.
-/
namespace Go.Proofs.YtjphlclhkaoipaaGreatDoor
open Go.RowKit
namespace Ve

theorem exW_bad {o : Option Bm} {m : Bm} (h : mErr m ≠ 0) : exW o m = mErr m := by unfold exW; rw [if_neg h]
theorem exW_none {m : Bm} (h : mErr m = 0) : exW none m = 0 := by unfold exW; rw [if_pos h]
theorem exW_some {p m : Bm} (h : mErr m = 0) : exW (some p) m = if mAhead p m then 0 else 8 := by unfold exW; rw [if_pos h]

set_option maxHeartbeats 1000000 in
theorem exK_bad (i : Int) (p v : ByteArray) (x : Value) (pr : Option Bm) (A : Nat → Addr) (m : Int) (W : World) (hp : p.size < 999999) (hv : v.size < 999999) (S : Te W A m) (h : mErr (p, v) ≠ 0) :
    Calls Tryz.prog 50 #[.int .i64 i, .agg #[.string p, .string v], x] W fun e w' => e = .returned (errA A (exW pr (p, v))) ∧ Below W.heap.size W w' := by
  rw [exW_bad h, errA_if A h]
  have HB0 := hid ((Below.refl W.heap.size W).alloc (Nat.le_refl _) (.cells #[.string p, .string v] 26))
  have HC := hid (mcheck_any p v A m _ (by omega) (by omega) (S.below HB0.out))
  rw [show modErr p.data.toList v.data.toList = mErr (p, v) from rfl, errA_if A h] at HC
  clear S h
  go_enter Tryz.func50, Tryz.ntmps50
  go_wp2_with fail
  refine HC.out.mono ?_
  rintro e w1 ⟨rfl, hb⟩
  have HB := hid (HB0.out.trans (hb.mono HB0.out.size))
  clear hb
  go_wp2_with fail
  go_ret
  exact ⟨rfl, HB.out⟩
set_option maxHeartbeats 1000000 in
theorem exK_0 (p v : ByteArray) (x : Value) (A : Nat → Addr) (m : Int) (W : World) (hp : p.size < 999999) (hv : v.size < 999999) (S : Te W A m) (h : mErr (p, v) = 0) :
    Calls Tryz.prog 50 #[.int .i64 0, .agg #[.string p, .string v], x] W fun e w' => e = .returned (errA A (exW none (p, v))) ∧ Below W.heap.size W w' := by
  rw [exW_none h, errA0]
  have HB0 := hid ((Below.refl W.heap.size W).alloc (Nat.le_refl _) (.cells #[.string p, .string v] 26))
  have HC := hid (mcheck_any p v A m _ (by omega) (by omega) (S.below HB0.out))
  rw [show modErr p.data.toList v.data.toList = mErr (p, v) from rfl, h, errA0] at HC
  clear S h
  go_enter Tryz.func50, Tryz.ntmps50
  go_wp2_with fail
  refine HC.out.mono ?_
  rintro e w1 ⟨rfl, hb⟩
  obtain ⟨⟨r0, r1⟩, rz⟩ := res2 (hb.mono (by simp))
  have HB := hid (HB0.out.trans (hb.mono HB0.out.size))
  clear hb
  go_wp2_with fail
  go_quiet (fail)
  go_wp2_with fail
  go_ret
  exact ⟨rfl, below_drawn_of HB.out _⟩

set_option maxHeartbeats 1000000 in
theorem exK_1 (k : Nat) (p v q u : ByteArray) (b2 b o n c : Nat) (A : Nat → Addr) (m : Int) (W : World) (hp : p.size < 999999) (hv : v.size < 999999) (hu : u.size < 999999) (S : Te W A m) (h : mErr (p, v) = 0)
    (h2 : W.cell? ⟨b2, 0, none⟩ = some (.slice (some ⟨b, o, none⟩) n c)) (hk : k < n) (hn : n ≤ 1000000) (h3 : W.cell? ⟨b, o + k * 2, none⟩ = some (.string q)) (h4 : W.cell? ⟨b, o + k * 2 + 1, none⟩ = some (.string u)) :
    Calls Tryz.prog 50 #[.int .i64 ((k : Int) + 1), .agg #[.string p, .string v], .pointer (some ⟨b2, 0, none⟩)] W fun e w' => e = .returned (errA A (exW (some (q, u)) (p, v))) ∧ Below W.heap.size W w' := by
  rw [exW_some h]
  have HB0 := hid ((Below.refl W.heap.size W).alloc (Nat.le_refl _) (.cells #[.string p, .string v] 26))
  have HS := hid (S.below HB0.out)
  have HC := hid (mcheck_any p v A m _ (by omega) (by omega) HS.out)
  rw [show modErr p.data.toList v.data.toList = mErr (p, v) from rfl, h, errA0] at HC
  have HA := hid (fun W (SW : Te W A m) => ahead_any q u p v A m W hu hv SW)
  rw [show aheadB q.data.toList u.data.toList p.data.toList v.data.toList = mAhead (q, u) (p, v) from rfl] at HA
  have H2 := hid h2
  have H3 := hid h3
  have H4 := hid h4
  clear S h h2 h3 h4
  have g1 : (0 : Int) ≤ (k : Int) := by omega
  have g2 : (k : Int) < (n : Int) := by omega
  have g3 : (k : Int) + 1 - 1 = (k : Int) := by omega
  have g4 : (0 : Int) < (k : Int) + 1 := by omega
  have gw : IntKind.i64.wrap (k : Int) = (k : Int) := by rw [IntKind.wrap_i64]; omega
  generalize hz : mAhead (q, u) (p, v) = z at *
  clear hz
  cases z
  · rw [if_neg (by simp), errA_if A (by omega)]
    go_enter Tryz.func50, Tryz.ntmps50
    go_wp2_with fail
    refine HC.out.mono ?_
    rintro e w1 ⟨rfl, hb⟩
    obtain ⟨⟨r0, r1⟩, rz⟩ := res2 (hb.mono (by simp))
    have HB := hid (HB0.out.trans (hb.mono HB0.out.size))
    have HS1 := hid (HS.out.below hb)
    have c2 := cell_below HB.out H2.out
    have c3 := cell_below HB.out H3.out
    have c4 := cell_below HB.out H4.out
    clear hb
    go_wp2_with fail
    go_region_with (go_at_call 51; refine (HA.out _ (HS1.out.below (below_drawn _ 1))).mono ?_; rintro e w2 ⟨rfl, hb⟩; have HB2 := hid ((HB.out.trans ((below_drawn _ 1).mono HB.out.size)).trans (hb.mono HB.out.size)); have gg := ((HS1.out.below (below_drawn _ 1)).below hb).sen.g7; clear hb)
    all_goals
      go_wp2_with fail
      go_ret
      exact ⟨rfl, HB2.out⟩
  · rw [if_pos rfl, errA0]
    go_enter Tryz.func50, Tryz.ntmps50
    go_wp2_with fail
    refine HC.out.mono ?_
    rintro e w1 ⟨rfl, hb⟩
    obtain ⟨⟨r0, r1⟩, rz⟩ := res2 (hb.mono (by simp))
    have HB := hid (HB0.out.trans (hb.mono HB0.out.size))
    have HS1 := hid (HS.out.below hb)
    have c2 := cell_below HB.out H2.out
    have c3 := cell_below HB.out H3.out
    have c4 := cell_below HB.out H4.out
    clear hb
    go_wp2_with fail
    go_region_with (go_at_call 51; refine (HA.out _ (HS1.out.below (below_drawn _ 1))).mono ?_; rintro e w2 ⟨rfl, hb⟩; have HB2 := hid ((HB.out.trans ((below_drawn _ 1).mono HB.out.size)).trans (hb.mono HB.out.size)); clear hb)
    all_goals
      go_wp2_with fail
      go_ret
      exact ⟨rfl, HB2.out⟩

/-- All modules are short. -/
def shortL (L : List Bm) : Prop := ∀ m, m ∈ L → m.1.size < 999999 ∧ m.2.size < 999999

theorem reqE_0 {own : ByteArray} {L : List Bm} (h : 0 < L.length) : reqE own L 0 = reqW own none L[0] := by
  unfold reqE prevOf; rw [List.getElem?_eq_getElem h]; rfl
theorem reqE_1 {own : ByteArray} {L : List Bm} {k : Nat} (h : k + 1 < L.length) : reqE own L (k + 1) = reqW own (some (L[k]'(by omega))) L[k + 1] := by
  unfold reqE prevOf; rw [List.getElem?_eq_getElem h, if_neg (by omega)]; simp only [Nat.add_sub_cancel]; rw [List.getElem?_eq_getElem (show k < L.length by omega)]
theorem exE_0 {L : List Bm} (h : 0 < L.length) : exE L 0 = exW none L[0] := by
  unfold exE prevOf; rw [List.getElem?_eq_getElem h]; rfl
theorem exE_1 {L : List Bm} {k : Nat} (h : k + 1 < L.length) : exE L (k + 1) = exW (some (L[k]'(by omega))) L[k + 1] := by
  unfold exE prevOf; rw [List.getElem?_eq_getElem h, if_neg (by omega)]; simp only [Nat.add_sub_cancel]; rw [List.getElem?_eq_getElem (show k < L.length by omega)]

/-- The closure of CheckReqs at any place. -/
theorem reqK_any (own : ByteArray) (L : List Bm) (b1 b2 : Nat) (v : Value) (A : Nat → Addr) (m : Int) (W : World) (hL : L.length ≤ 1000000) (hs : shortL L) (S : Te W A m) (h1 : W.cell? ⟨b1, 0, none⟩ = some (.string own)) (h2 : W.cell? ⟨b2, 0, none⟩ = some v) (hv : MsAt W v L) (i : Nat) (hi : i < L.length) :
    Calls Tryz.prog 48 (#[.int .i64 (i : Int), .agg #[.string L[i].1, .string L[i].2]] ++ #[.pointer (some ⟨b1, 0, none⟩), .pointer (some ⟨b2, 0, none⟩)]) W fun e w' => e = .returned (errA A (reqE own L i)) ∧ Below W.heap.size W w' := by
  obtain ⟨a, c, rfl, _, h⟩ := hv
  obtain ⟨b, o, rfl, hc⟩ := h (by intro e; rw [e] at hi; simp at hi)
  have hz := hs L[i] (List.getElem_mem hi)
  cases i with
  | zero =>
    rw [reqE_0 hi]
    by_cases e0 : mErr L[0] = 0
    · by_cases e1 : L[0].1 = own
      · exact reqK_own 0 L[0].1 L[0].2 own b1 _ none A m W hz.1 hz.2 S h1 e0 e1
      · exact reqK_0 L[0].1 L[0].2 own b1 _ A m W hz.1 hz.2 S h1 e0 e1
    · exact reqK_bad 0 L[0].1 L[0].2 own b1 _ none A m W hz.1 hz.2 S e0
  | succ k =>
    rw [reqE_1 hi]
    by_cases e0 : mErr L[k + 1] = 0
    · by_cases e1 : L[k + 1].1 = own
      · exact reqK_own _ L[k + 1].1 L[k + 1].2 own b1 _ _ A m W hz.1 hz.2 S h1 e0 e1
      · exact reqK_1 k L[k + 1].1 L[k + 1].2 L[k].1 L[k].2 own b1 b2 b o L.length c A m W hz.1 hz.2 S h1 e0 e1 h2 (by omega) hL (hc k (by omega)).1
    · exact reqK_bad _ L[k + 1].1 L[k + 1].2 own b1 _ _ A m W hz.1 hz.2 S e0
theorem exK_any (L : List Bm) (b2 : Nat) (v : Value) (A : Nat → Addr) (m : Int) (W : World) (hL : L.length ≤ 1000000) (hs : shortL L) (S : Te W A m) (h2 : W.cell? ⟨b2, 0, none⟩ = some v) (hv : MsAt W v L) (i : Nat) (hi : i < L.length) :
    Calls Tryz.prog 50 (#[.int .i64 (i : Int), .agg #[.string L[i].1, .string L[i].2]] ++ #[.pointer (some ⟨b2, 0, none⟩)]) W fun e w' => e = .returned (errA A (exE L i)) ∧ Below W.heap.size W w' := by
  obtain ⟨a, c, rfl, _, h⟩ := hv
  obtain ⟨b, o, rfl, hc⟩ := h (by intro e; rw [e] at hi; simp at hi)
  have hz := hs L[i] (List.getElem_mem hi)
  cases i with
  | zero =>
    rw [exE_0 hi]
    by_cases e0 : mErr L[0] = 0
    · exact exK_0 L[0].1 L[0].2 _ A m W hz.1 hz.2 S e0
    · exact exK_bad 0 L[0].1 L[0].2 _ none A m W hz.1 hz.2 S e0
  | succ k =>
    rw [exE_1 hi]
    by_cases e0 : mErr L[k + 1] = 0
    · exact exK_1 k L[k + 1].1 L[k + 1].2 L[k].1 L[k].2 b2 b o L.length c A m W hz.1 hz.2 (hs L[k] (List.getElem_mem (by omega))).2 S e0 h2 (by omega) hL (hc k (by omega)).1 (hc k (by omega)).2
    · exact exK_bad _ L[k + 1].1 L[k + 1].2 _ _ A m W hz.1 hz.2 S e0

theorem MsAt.slice {w : World} {v : Value} {L : List Bm} (h : MsAt w v L) : ∃ p n c, v = .slice p n c := by
  obtain ⟨a, c, e, _⟩ := h
  exact ⟨a, _, c, e⟩
set_option maxHeartbeats 1000000 in
/-- mod.CheckReqs. -/
theorem reqs_any (own : ByteArray) (L : List Bm) (v : Value) (A : Nat → Addr) (m : Int) (w : World) (hL : L.length ≤ 1000000) (hs : shortL L) (S : Te w A m) (hv : MsAt w v L) :
    Calls Tryz.prog 23 #[.string own, v] w fun e w' => ∃ u, e = .returned u ∧ ErrAt w' A u (codeE (reqE own L) L.length) (fstE (reqE own L) L.length) ∧ Below w.heap.size w w' := by
  obtain ⟨vp, vn, vc, rfl⟩ := hv.slice
  have HB0 := hid (((Below.refl w.heap.size w).alloc (Nat.le_refl _) (.cells #[.string own] 9)).alloc (by simp) (.cells #[.slice vp vn vc] 22))
  have eg : ∀ args w, (callFunc 48 args).run Tryz.prog w = .ok (.enter 48 args) w := enters_of Tryz.func48 (by kernel_rfl) rfl
  have HF := hid (first_any 48 #[.pointer (some ⟨w.heap.size, 0, none⟩), .pointer (some ⟨w.heap.size + 1, 0, none⟩)] (reqE own L) L _ A ((w.alloc (.cells #[.string own] 9)).alloc (.cells #[.slice vp vn vc] 22)) eg hL (hv.below HB0.out) (fun i hi W hW =>
    reqK_any own L w.heap.size (w.heap.size + 1) _ A m W hL hs ((S.below HB0.out).below hW) (cell_below hW (by rw [World.cell?_alloc_lt _ _ _ (by simp)]; simp)) (cell_below hW (by rw [World.cell?_alloc_at _ _ _ _ (by simp)]; rfl)) ((hv.below HB0.out).below hW) i hi))
  clear S hv eg
  go_enter Tryz.func23, Tryz.ntmps23
  go_wp2_with fail
  refine HF.out.mono ?_
  rintro e w1 ⟨u, rfl, he, hb⟩
  have HB := hid (HB0.out.trans (hb.mono HB0.out.size))
  have HE := hid he
  clear hb he
  go_wp2_with fail
  go_ret
  exact ⟨_, rfl, HE.out, HB.out⟩
set_option maxHeartbeats 1000000 in
/-- file.checkExclude. -/
theorem ex_any (L : List Bm) (v : Value) (A : Nat → Addr) (m : Int) (w : World) (hL : L.length ≤ 1000000) (hs : shortL L) (S : Te w A m) (hv : MsAt w v L) :
    Calls Tryz.prog 24 #[v] w fun e w' => ∃ u, e = .returned u ∧ ErrAt w' A u (codeE (exE L) L.length) (fstE (exE L) L.length) ∧ Below w.heap.size w w' := by
  obtain ⟨vp, vn, vc, rfl⟩ := hv.slice
  have HB0 := hid ((Below.refl w.heap.size w).alloc (Nat.le_refl _) (.cells #[.slice vp vn vc] 22))
  have eg : ∀ args w, (callFunc 50 args).run Tryz.prog w = .ok (.enter 50 args) w := enters_of Tryz.func50 (by kernel_rfl) rfl
  have HF := hid (first_any 50 #[.pointer (some ⟨w.heap.size, 0, none⟩)] (exE L) L _ A (w.alloc (.cells #[.slice vp vn vc] 22)) eg hL (hv.below HB0.out) (fun i hi W hW =>
    exK_any L w.heap.size _ A m W hL hs ((S.below HB0.out).below hW) (cell_below hW (by simp)) ((hv.below HB0.out).below hW) i hi))
  clear S hv eg
  go_enter Tryz.func24, Tryz.ntmps24
  go_wp2_with fail
  refine HF.out.mono ?_
  rintro e w1 ⟨u, rfl, he, hb⟩
  have HB := hid (HB0.out.trans (hb.mono HB0.out.size))
  have HE := hid he
  clear hb he
  go_wp2_with fail
  go_ret
  exact ⟨_, rfl, HE.out, HB.out⟩
end Ve
end Go.Proofs.YtjphlclhkaoipaaGreatDoor
