/-
  FileQ
-/
import Derived.Test.YtiebgeamfblbdaaGreatDoorFb5
namespace Go.Proofs.YtiebgeamfblbdaaGreatDoor
namespace Ve
abbrev Bm := ByteArray × ByteArray
abbrev Fs := ByteArray × List Bm × List Bm
def bt (l : List UInt8) : ByteArray := ⟨l.toArray⟩
theorem bt_list (l : List UInt8) : (bt l).data.toList = l := by simp [bt]
theorem bt_of (a : ByteArray) : bt a.data.toList = a := by cases a; simp [bt]
theorem bt_of' {a : ByteArray} {l : List UInt8} (h : a.data.toList = l) : a = bt l := by rw [← h, bt_of]
def wModule : List UInt8 := [109, 111, 100, 117, 108, 101]
def wRequire : List UInt8 := [114, 101, 113, 117, 105, 114, 101]
def wExclude : List UInt8 := [101, 120, 99, 108, 117, 100, 101]
def stepF (i : Nat) (ws : List (List UInt8)) (f : Fs) : Option Fs :=
  if i = 0 then (match ws with
    | [a, b] => if a = wModule then some (bt b, f.2) else none
    | _ => none)
  else (match ws with
    | [a, b, c] => if a = wRequire ∧ f.2.2 = [] then some (f.1, f.2.1 ++ [(bt b, bt c)], f.2.2) else if a = wExclude then some (f.1, f.2.1, f.2.2 ++ [(bt b, bt c)]) else none
    | _ => none)
def readGo : Nat → List (List UInt8) → Fs → Except Nat Fs
  | _, [], f => .ok f
  | i, [l], f => if l = [] ∧ i ≠ 0 then .ok f else .error i
  | i, l :: k :: r, f => match stepF i (cutAt 32 l) f with
    | some f' => readGo (i + 1) (k :: r) f'
    | none => .error i
def noFile : Fs := (⟨#[]⟩, [], [])
def readL (s : List UInt8) : Except Nat Fs := readGo 0 (cutAt 10 s) noFile
def lineOf (w : List UInt8) (m : Bm) : List UInt8 := w ++ 32 :: (m.1.data.toList ++ 32 :: m.2.data.toList)
def linesOf (f : Fs) : List (List UInt8) := (wModule ++ 32 :: f.1.data.toList) :: (f.2.1.map (lineOf wRequire) ++ f.2.2.map (lineOf wExclude))
def ended (ls : List (List UInt8)) : List UInt8 := ls.flatMap (fun l => l ++ [10])
def fText (f : Fs) : List UInt8 := ended (linesOf f)
theorem cut_not {c : UInt8} : ∀ {a : List UInt8}, c ∉ a → cutAt c a = [a]
  | [], _ => rfl
  | x :: a, h => by
    have h1 : x ≠ c := fun e => h (by rw [e]; exact List.mem_cons_self)
    have h2 := cut_not (c := c) (a := a) (fun e => h (List.mem_cons_of_mem _ e))
    unfold cutAt
    rw [if_neg h1, h2]; rfl
theorem cut_at {c : UInt8} (b : List UInt8) : ∀ {a : List UInt8}, c ∉ a → cutAt c (a ++ c :: b) = a :: cutAt c b
  | [], _ => by simp [cutAt]
  | x :: a, h => by
    have h1 : x ≠ c := fun e => h (by rw [e]; exact List.mem_cons_self)
    have h2 := cut_at b (c := c) (a := a) (fun e => h (List.mem_cons_of_mem _ e))
    rw [List.cons_append, cutAt, if_neg h1, h2]; rfl
theorem cut_ended : ∀ {ls : List (List UInt8)}, (∀ l, l ∈ ls → (10 : UInt8) ∉ l) → cutAt 10 (ended ls) = ls ++ [[]]
  | [], _ => rfl
  | l :: r, h => by
    have h2 := cut_ended (ls := r) (fun x hx => h x (List.mem_cons_of_mem _ hx))
    have e : ended (l :: r) = l ++ 10 :: ended r := by simp [ended]
    rw [e, cut_at _ (h l List.mem_cons_self), h2]; rfl
def clean (m : Bm) : Prop := ((10 : UInt8) ∉ m.1.data.toList ∧ (10 : UInt8) ∉ m.2.data.toList) ∧ ((32 : UInt8) ∉ m.1.data.toList ∧ (32 : UInt8) ∉ m.2.data.toList)
theorem line_words {w : List UInt8} {m : Bm} (hw : (32 : UInt8) ∉ w) (h : clean m) : cutAt 32 (lineOf w m) = [w, m.1.data.toList, m.2.data.toList] := by
  unfold lineOf
  rw [cut_at _ hw, cut_at _ h.2.1, cut_not h.2.2]
theorem line_end {w : List UInt8} {m : Bm} (hw : (10 : UInt8) ∉ w) (h : clean m) : (10 : UInt8) ∉ lineOf w m := by
  unfold lineOf
  intro hm
  rcases List.mem_append.1 hm with h1 | h1
  · exact hw h1
  · rcases List.mem_cons.1 h1 with h1 | h1
    · exact absurd h1 (by decide)
    · rcases List.mem_append.1 h1 with h1 | h1
      · exact h.1.1 h1
      · rcases List.mem_cons.1 h1 with h1 | h1
        · exact absurd h1 (by decide)
        · exact h.1.2 h1
theorem go_step {i : Nat} {l : List UInt8} {r : List (List UInt8)} {f f' : Fs} (hr : r ≠ []) (h : stepF i (cutAt 32 l) f = some f') : readGo i (l :: r) f = readGo (i + 1) r f' := by
  cases r with
  | nil => exact absurd rfl hr
  | cons k r => rw [readGo, h]
theorem go_bad {i : Nat} {l : List UInt8} {r : List (List UInt8)} {f : Fs} (hr : r ≠ []) (h : stepF i (cutAt 32 l) f = none) : readGo i (l :: r) f = .error i := by
  cases r with
  | nil => exact absurd rfl hr
  | cons k r => rw [readGo, h]
theorem go_ex {p : ByteArray} {R : List Bm} : ∀ {X Y : List Bm} {i : Nat}, i ≠ 0 → (∀ m, m ∈ X → clean m) → readGo i (X.map (lineOf wExclude) ++ [[]]) (p, R, Y) = .ok (p, R, Y ++ X)
  | [], Y, i, hi, _ => by simp [readGo, hi]
  | m :: X, Y, i, hi, h => by
    have hm := line_words (w := wExclude) (by decide) (h m List.mem_cons_self)
    have hs : stepF i (cutAt 32 (lineOf wExclude m)) (p, R, Y) = some (p, R, Y ++ [m]) := by
      rw [hm]
      unfold stepF
      rw [if_neg hi]
      simp only
      rw [if_neg (fun h => absurd h.1 (by decide)), if_pos trivial, bt_of, bt_of]
    rw [List.map_cons, List.cons_append, go_step (by simp) hs, go_ex (by omega) (fun x hx => h x (List.mem_cons_of_mem _ hx))]
    simp
theorem go_req {p : ByteArray} {X : List Bm} (hX : ∀ m, m ∈ X → clean m) : ∀ {R Q : List Bm} {i : Nat}, i ≠ 0 → (∀ m, m ∈ R → clean m) → readGo i (R.map (lineOf wRequire) ++ (X.map (lineOf wExclude) ++ [[]])) (p, Q, []) = .ok (p, Q ++ R, X)
  | [], Q, i, hi, _ => by
    rw [List.map_nil, List.nil_append, go_ex hi hX]; simp
  | m :: R, Q, i, hi, h => by
    have hm := line_words (w := wRequire) (by decide) (h m List.mem_cons_self)
    have hs : stepF i (cutAt 32 (lineOf wRequire m)) (p, Q, []) = some (p, Q ++ [m], []) := by
      rw [hm]
      unfold stepF
      rw [if_neg hi]
      simp only
      rw [if_pos ⟨trivial, trivial⟩, bt_of, bt_of]
    rw [List.map_cons, List.cons_append, go_step (by simp) hs, go_req hX (by omega) (fun x hx => h x (List.mem_cons_of_mem _ hx))]
    simp
theorem read_back {f : Fs} (h1 : (10 : UInt8) ∉ f.1.data.toList ∧ (32 : UInt8) ∉ f.1.data.toList) (hR : ∀ m, m ∈ f.2.1 → clean m) (hX : ∀ m, m ∈ f.2.2 → clean m) : readL (fText f) = .ok f := by
  have hls : ∀ l, l ∈ linesOf f → (10 : UInt8) ∉ l := by
    intro l hl
    unfold linesOf at hl
    rcases List.mem_cons.1 hl with rfl | hl
    · intro hm
      rcases List.mem_append.1 hm with h | h
      · exact absurd h (by decide)
      · rcases List.mem_cons.1 h with h | h
        · exact absurd h (by decide)
        · exact h1.1 h
    · rcases List.mem_append.1 hl with h | h
      · obtain ⟨m, hm, rfl⟩ := List.mem_map.1 h
        exact line_end (by decide) (hR m hm)
      · obtain ⟨m, hm, rfl⟩ := List.mem_map.1 h
        exact line_end (by decide) (hX m hm)
  unfold readL fText
  rw [cut_ended hls]
  unfold linesOf
  have hs : stepF 0 (cutAt 32 (wModule ++ 32 :: f.1.data.toList)) noFile = some (f.1, [], []) := by
    rw [cut_at _ (by decide), cut_not h1.2]
    unfold stepF
    rw [if_pos rfl]
    simp only
    rw [if_pos trivial, bt_of]; rfl
  rw [List.cons_append, go_step (by simp) hs, List.append_assoc, go_req hX (by omega) hR]
  simp
theorem ended_len (n : Nat) : ∀ (ls : List (List UInt8)), (∀ l, l ∈ ls → l.length ≤ n) → (ended ls).length ≤ ls.length * (n + 1)
  | [], _ => by simp [ended]
  | l :: r, h => by
    have h1 := ended_len n r (fun x hx => h x (List.mem_cons_of_mem _ hx))
    have h2 := h l List.mem_cons_self
    have e : ended (l :: r) = l ++ 10 :: ended r := by simp [ended]
    rw [e]
    simp only [List.length_append, List.length_cons]
    rw [Nat.succ_mul]
    omega
theorem fText_len {f : Fs} (h1 : f.1.size ≤ 90) (hr : f.2.1.length ≤ 20) (hx : f.2.2.length ≤ 20) (hR : ∀ m, m ∈ f.2.1 ++ f.2.2 → m.1.size ≤ 70 ∧ m.2.size ≤ 60) : (fText f).length ≤ 8000 := by
  have h := ended_len 140 (linesOf f) (fun l hl => by
    unfold linesOf at hl
    have hsz : ∀ a : ByteArray, a.data.toList.length = a.size := fun a => by simp
    rcases List.mem_cons.1 hl with rfl | hl
    · simp [wModule]; omega
    · rcases List.mem_append.1 hl with h | h
      · obtain ⟨m, hm, rfl⟩ := List.mem_map.1 h
        have := hR m (List.mem_append_left _ hm)
        simp [lineOf, wRequire]; omega
      · obtain ⟨m, hm, rfl⟩ := List.mem_map.1 h
        have := hR m (List.mem_append_right _ hm)
        simp [lineOf, wExclude]; omega)
  have hn : (linesOf f).length ≤ 41 := by simp [linesOf]; omega
  unfold fText
  have : (linesOf f).length * (140 + 1) ≤ 41 * 141 := Nat.mul_le_mul_right _ hn
  omega
end Ve
end Go.Proofs.YtiebgeamfblbdaaGreatDoor
