
import Derived.Test.YtoaobngpdaidoaaGreatDoorFileQ
import Derived.Test.YtoaobngpdaidoaaGreatDoorFileP
import Derived.Deep.AppendLies
import Derived.Maps.OwnSet
import Derived.DeepKeys4
import Derived.MapViews
import Derived.Test.YtoaobngpdaidoaaGreatDoorAhead
import Derived.Laws.StructEq
import Derived.Test.YtoaobngpdaidoaaGreatDoorFileA
import Derived.OwnWalk
import Derived.Laws.AppendOwnNone
import Derived.Lib.SmallJoins
import Derived.Lib.AppendZeros
import Derived.RangeFuncBox
import Derived.RangeFuncLeaves
import Derived.Shelf.Abstract
import Derived.OwnWalkIn
import Derived.TacticsInMore
import Derived.LoopNIn
import Derived.LoopIn
import Derived.Maps.AppendAt
import Derived.Shelf.Strings.Builder1
import Derived.Shelf.Strings.Builder2
import Derived.Shelf.Strings.OnBuilder
import Derived.Shelf.Strings.Trim
import Derived.Shelf.Small.Utf8
import Derived.Shelf.Small.Bits
import Derived.Shelf.Small.Strs
import Derived.Shelf.Small.Wraps
import Derived.Shelf.Strconv.Itoa0
import Derived.Shelf.Strconv.Itoa1
import Derived.Shelf.LaysM
import Derived.Shelf.Strconv.Itoa2
import Derived.Shelf.Strconv.Itoa3
import Derived.Shelf.Strings.Search1
import Derived.Shelf.Strings.Search2
import Derived.Shelf.Strings.Search3
import Derived.Shelf.Strings.Cut
import Derived.Shelf.Strings.Count
import Derived.Shelf.Strings.Shaped
import Derived.Shelf.Sort.Plain
import Derived.Shelf.Strings.Prefix
import Derived.Shelf.Strings.Split
import Derived.Shelf.Strings.Runes
import Derived.Shelf.Strings.AsciiSet
import Derived.Shelf.Unicode.DecodeSlow
import Derived.Shelf.Slices.Equal
import Derived.Shelf.Slices.CompactS
import Derived.Shelf.Slices.In.SortNone
import Derived.Shelf.Slices.Empties2
import Derived.Test.YtoaobngpdaidoaaGreatDoorProg
import Derived.Test.YtoaobngpdaidoaaGreatDoorShelfM
import Derived.Sort.OwnSorted
namespace Go.Proofs.YtoaobngpdaidoaaGreatDoor
namespace Ve
abbrev By := List (Bm × Bm)
def whoT (T : By) : List Bm := T.map fun x => x.1
theorem whoT_len (T : By) : (whoT T).length = T.length := by simp [whoT]
theorem whoT_get {T : By} {k : Nat} (h : k < T.length) : (whoT T)[k]'(by rw [whoT_len]; exact h) = T[k].1 := by simp [whoT]
theorem whoT_mem {T : By} {m : Bm} : m ∈ whoT T ↔ ∃ k, ∃ h : k < T.length, T[k].1 = m := by
  constructor
  · intro h
    obtain ⟨k, hk, e⟩ := List.getElem_of_mem h
    have hk2 : k < T.length := by rw [← whoT_len]; exact hk
    exact ⟨k, hk2, by rw [← whoT_get hk2]; exact e⟩
  · rintro ⟨k, h, rfl⟩
    exact List.mem_map.2 ⟨T[k], List.getElem_mem h, rfl⟩
def cameB (T : By) (m : Bm) : Bool := T.any fun x => decide (x.1.1 = m.1 ∧ x.1.2 = m.2)
theorem cameB_iff {T : By} {m : Bm} : cameB T m = true ↔ m ∈ whoT T := by
  unfold cameB
  rw [List.any_eq_true]
  constructor
  · rintro ⟨x, hx, h⟩
    have h2 := of_decide_eq_true h
    exact List.mem_map.2 ⟨x, hx, Prod.ext h2.1 h2.2⟩
  · intro h
    obtain ⟨x, hx, e⟩ := List.mem_map.1 h
    exact ⟨x, hx, decide_eq_true (by rw [e]; exact ⟨rfl, rfl⟩)⟩
theorem cameB_not {T : By} {m : Bm} (h : cameB T m = false) : m ∉ whoT T := fun hm => by rw [cameB_iff.2 hm] at h; cases h
def comeT (T : By) (m f : Bm) : By := if cameB T m then T else T ++ [(m, f)]
theorem come_yes {T : By} {m f : Bm} (h : cameB T m = true) : comeT T m f = T := by unfold comeT; rw [if_pos h]
theorem come_no {T : By} {m f : Bm} (h : cameB T m = false) : comeT T m f = T ++ [(m, f)] := by unfold comeT; rw [h]; rfl
theorem whoT_app (T : By) (m f : Bm) : whoT (T ++ [(m, f)]) = whoT T ++ [m] := by simp [whoT]
theorem come_mem (T : By) (m f : Bm) : m ∈ whoT (comeT T m f) := by
  cases h : cameB T m
  · rw [come_no h, whoT_app]; simp
  · rw [come_yes h]; exact cameB_iff.1 h
theorem come_sub {T : By} {m f x : Bm} (h : x ∈ whoT T) : x ∈ whoT (comeT T m f) := by
  cases hc : cameB T m
  · rw [come_no hc, whoT_app]; simp [h]
  · rw [come_yes hc]; exact h
theorem come_old (T : By) (m f : Bm) : ∃ R, comeT T m f = T ++ R := by
  cases hc : cameB T m
  · exact ⟨[(m, f)], come_no hc⟩
  · exact ⟨[], by rw [come_yes hc]; simp⟩
theorem nd_len {α : Type} [DecidableEq α] : ∀ (a b : List α), a.Nodup → (∀ x, x ∈ a → x ∈ b) → a.length ≤ b.length
  | [], _, _, _ => Nat.zero_le _
  | x :: a, b, hn, hs => by
    obtain ⟨h1, h2⟩ := List.nodup_cons.1 hn
    have hx := hs x (by simp)
    have h3 := nd_len a (b.erase x) h2 (fun y hy => (List.mem_erase_of_ne (fun e => h1 (by rw [← e]; exact hy))).2 (hs y (List.mem_cons_of_mem _ hy)))
    rw [List.length_erase_of_mem hx] at h3
    have := List.length_pos_of_mem hx
    simp
    omega
structure Bfs (req : Bm → List Bm) (U roots : List Bm) (T : By) (i : Nat) : Prop where
  le : i ≤ T.length
  nd : (whoT T).Nodup
  un : ∀ m, m ∈ whoT T → m ∈ U
  by_ : ∀ k (h : k < T.length), (T[k].1 = T[k].2 ∧ T[k].1 ∈ roots) ∨ ∃ j, ∃ hj : j < k, (T[j]'(Nat.lt_trans hj h)).1 = T[k].2 ∧ T[k].1 ∈ req T[k].2
  cl : ∀ j (h : j < T.length), j < i → ∀ m, m ∈ req T[j].1 → m ∈ whoT T
theorem Bfs.none (req : Bm → List Bm) (U roots : List Bm) : Bfs req U roots [] 0 := ⟨Nat.le_refl _, by simp [whoT], fun m h => by simp [whoT] at h, fun k h => absurd h (Nat.not_lt_zero _), fun j h => absurd h (Nat.not_lt_zero _)⟩
theorem Bfs.len {req : Bm → List Bm} {U roots : List Bm} {T : By} {i : Nat} (h : Bfs req U roots T i) : T.length ≤ U.length := by
  have := nd_len (whoT T) U h.nd h.un
  rw [whoT_len] at this
  exact this
theorem Bfs.come {req : Bm → List Bm} {U roots : List Bm} {T : By} {i : Nat} (h : Bfs req U roots T i) {m f : Bm} (hm : m ∈ U) (hf : (m = f ∧ m ∈ roots) ∨ (f ∈ whoT T ∧ m ∈ req f)) : Bfs req U roots (comeT T m f) i := by
  cases hc : cameB T m
  · rw [come_no hc]
    have hn : m ∉ whoT T := cameB_not hc
    refine ⟨by have := h.le; simp; omega, ?_, ?_, ?_, ?_⟩
    · rw [whoT_app]
      exact List.nodup_append.2 ⟨h.nd, by simp, fun a ha b hb e => by simp at hb; subst hb; subst e; exact hn ha⟩
    · intro x hx
      rw [whoT_app] at hx
      rcases List.mem_append.1 hx with hx | hx
      · exact h.un x hx
      · simp at hx; subst hx; exact hm
    · intro k hk
      by_cases hkT : k < T.length
      · have e : (T ++ [(m, f)])[k] = T[k] := List.getElem_append_left hkT
        rw [e]
        rcases h.by_ k hkT with h1 | ⟨j, hj, h2, h3⟩
        · exact Or.inl h1
        · exact Or.inr ⟨j, hj, by rw [List.getElem_append_left (by omega)]; exact h2, h3⟩
      · have hk2 : k = T.length := by simp at hk; omega
        subst hk2
        have e : (T ++ [(m, f)])[T.length] = (m, f) := by simp
        rw [e]
        rcases hf with hf | ⟨hf, hr⟩
        · exact Or.inl hf
        · obtain ⟨j, hj, ej⟩ := whoT_mem.1 hf
          exact Or.inr ⟨j, hj, by rw [List.getElem_append_left hj]; exact ej, hr⟩
    · intro j hj hji x hx
      rw [whoT_app]
      by_cases hjT : j < T.length
      · rw [List.getElem_append_left hjT] at hx
        exact List.mem_append_left _ (h.cl j hjT hji x hx)
      · have := h.le; omega
  · rw [come_yes hc]; exact h
theorem Bfs.next {req : Bm → List Bm} {U roots : List Bm} {T : By} {i : Nat} (h : Bfs req U roots T i) (hi : i < T.length) (hr : ∀ m, m ∈ req T[i].1 → m ∈ whoT T) : Bfs req U roots T (i + 1) :=
  ⟨hi, h.nd, h.un, h.by_, fun j hj hji m hm => by
    rcases Nat.lt_or_ge j i with h1 | h1
    · exact h.cl j hj h1 m hm
    · have : j = i := by omega
      subst this
      exact hr m hm⟩
inductive Rch (req : Bm → List Bm) (roots : List Bm) : Bm → Prop
  | root {m : Bm} : m ∈ roots → Rch req roots m
  | step {p m : Bm} : Rch req roots p → m ∈ req p → Rch req roots m
theorem Bfs.only {req : Bm → List Bm} {U roots : List Bm} {T : By} {i : Nat} (h : Bfs req U roots T i) : ∀ (n k : Nat) (hk : k < T.length), k ≤ n → Rch req roots T[k].1
  | 0, k, hk, hn => by
    rcases h.by_ k hk with h1 | ⟨j, hj, _⟩
    · exact .root h1.2
    · omega
  | n + 1, k, hk, hn => by
    rcases h.by_ k hk with h1 | ⟨j, hj, h2, h3⟩
    · exact .root h1.2
    · have := h.only n j (by omega) (by omega)
      rw [h2] at this
      exact .step this h3
inductive Wn (req : Bm → List Bm) (roots : List Bm) : Nat → Bm → Prop
  | root {m : Bm} : m ∈ roots → Wn req roots 1 m
  | step {n : Nat} {p m : Bm} : Wn req roots n p → m ∈ req p → Wn req roots (n + 1) m
theorem Wn.pos {req : Bm → List Bm} {roots : List Bm} {n : Nat} {m : Bm} (h : Wn req roots n m) : 1 ≤ n := by
  cases h with
  | root _ => exact Nat.le_refl _
  | step _ _ => omega
def Dst (req : Bm → List Bm) (roots : List Bm) (m : Bm) (n : Nat) : Prop := Wn req roots n m ∧ ∀ k, Wn req roots k m → n ≤ k
structure LvOk (req : Bm → List Bm) (roots : List Bm) (T : By) (i : Nat) (V : List Nat) : Prop where
  ln : V.length = T.length
  wn : ∀ k (h : k < T.length) (h' : k < V.length), Wn req roots V[k] T[k].1
  st : ∀ k (h : k < T.length) (h' : k < V.length), (T[k].1 = T[k].2 ∧ V[k] = 1) ∨ ∃ j, ∃ hj : j < k, (T[j]'(Nat.lt_trans hj h)).1 = T[k].2 ∧ V[k] = (V[j]'(Nat.lt_trans hj h')) + 1
  mo : ∀ a b (hb : b < V.length) (hab : a < b), (V[a]'(Nat.lt_trans hab hb)) ≤ V[b]
  nx : ∀ k (h : k < V.length) (hi : i < V.length), V[k] ≤ V[i] + 1
  pr : ∀ j (h : j < T.length) (h' : j < V.length), j < i → ∀ m, m ∈ req T[j].1 → ∃ k, ∃ hk : k < T.length, ∃ hk' : k < V.length, T[k].1 = m ∧ V[k] ≤ V[j] + 1
  rt : ∀ k (h : k < T.length) (h' : k < V.length), T[k].1 ∈ roots → V[k] = 1
theorem LvOk.none (req : Bm → List Bm) (roots : List Bm) : LvOk req roots [] 0 [] :=
  ⟨rfl, fun _ h => absurd h (Nat.not_lt_zero _), fun _ h => absurd h (Nat.not_lt_zero _), fun _ _ hb => absurd hb (Nat.not_lt_zero _), fun _ h => absurd h (Nat.not_lt_zero _), fun _ h => absurd h (Nat.not_lt_zero _), fun _ h => absurd h (Nat.not_lt_zero _)⟩
theorem LvOk.push {req : Bm → List Bm} {roots : List Bm} {T : By} {i : Nat} {V : List Nat} (h : LvOk req roots T i V) {m f : Bm} {l : Nat} (hw : Wn req roots l m)
    (hs : (m = f ∧ l = 1) ∨ ∃ j, ∃ hj : j < T.length, T[j].1 = f ∧ l = (V[j]'(by rw [h.ln]; exact hj)) + 1) (hm : ∀ k (hk : k < V.length), V[k] ≤ l) (hn : ∀ (hi : i < V.length), l ≤ V[i] + 1) (hi0 : i ≤ T.length) (hi1 : i = V.length → l ≤ l + 1) (hr : m ∈ roots → l = 1) : LvOk req roots (T ++ [(m, f)]) i (V ++ [l]) := by
  have hl : V.length = T.length := h.ln
  have gT : ∀ k (hk : k < T.length) (hk' : k < (T ++ [(m, f)]).length), (T ++ [(m, f)])[k] = T[k] := fun k hk _ => List.getElem_append_left hk
  have gV : ∀ k (hk : k < V.length) (hk' : k < (V ++ [l]).length), (V ++ [l])[k] = V[k] := fun k hk _ => List.getElem_append_left hk
  have eT : ∀ (hk' : T.length < (T ++ [(m, f)]).length), (T ++ [(m, f)])[T.length] = (m, f) := fun _ => by simp
  have eV : ∀ (hk' : T.length < (V ++ [l]).length), (V ++ [l])[T.length] = l := fun _ => by
    have : ∀ (n : Nat) (hn : n = V.length) (hk : n < (V ++ [l]).length), (V ++ [l])[n] = l := fun n hn hk => by subst hn; simp
    exact this _ hl.symm _
  refine ⟨by simp [hl], ?_, ?_, ?_, ?_, ?_, ?_⟩
  · intro k hk hk'
    by_cases hT : k < T.length
    · rw [gT k hT hk, gV k (by omega) hk']; exact h.wn k hT _
    · have : k = T.length := by simp at hk; omega
      subst this
      rw [eT hk, eV hk']; exact hw
  · intro k hk hk'
    by_cases hT : k < T.length
    · rw [gT k hT hk, gV k (by omega) hk']
      rcases h.st k hT (by omega) with h1 | ⟨j, hj, h2, h3⟩
      · exact Or.inl h1
      · exact Or.inr ⟨j, hj, by rw [gT j (by omega)]; exact h2, by rw [gV j (by omega)]; exact h3⟩
    · have : k = T.length := by simp at hk; omega
      subst this
      rw [eT hk, eV hk']
      rcases hs with h1 | ⟨j, hj, h2, h3⟩
      · exact Or.inl h1
      · exact Or.inr ⟨j, hj, by rw [gT j hj]; exact h2, by rw [gV j (by omega)]; exact h3⟩
  · intro a b hb hab
    by_cases hB : b < V.length
    · rw [gV b hB hb, gV a (by omega)]; exact h.mo a b hB hab
    · have : b = T.length := by simp at hb; omega
      subst this
      rw [eV hb, gV a (by omega)]
      exact hm a (by omega)
  · intro k hk hi
    by_cases hI : i < V.length
    · rw [gV i hI hi]
      by_cases hK : k < V.length
      · rw [gV k hK hk]; exact h.nx k hK hI
      · have : k = T.length := by simp at hk; omega
        subst this
        rw [eV hk]; exact hn hI
    · have hie : i = T.length := by simp at hi; omega
      subst hie
      rw [eV hi]
      by_cases hK : k < V.length
      · rw [gV k hK hk]; exact Nat.le_succ_of_le (hm k hK)
      · have : k = T.length := by simp at hk; omega
        subst this
        rw [eV hk]; omega
  · intro j hj hj' hji x hx
    have hjT : j < T.length := by omega
    rw [gT j hjT hj] at hx
    obtain ⟨k, hk, hk', e, hle⟩ := h.pr j hjT (by omega) hji x hx
    refine ⟨k, by simp; omega, by simp; omega, by rw [gT k hk]; exact e, ?_⟩
    rw [gV k hk', gV j (by omega)]; exact hle
  · intro k hk hk' hx
    by_cases hT : k < T.length
    · rw [gT k hT hk] at hx
      rw [gV k (by omega) hk']; exact h.rt k hT _ hx
    · have : k = T.length := by simp at hk; omega
      subst this
      rw [eT hk] at hx
      rw [eV hk']; exact hr hx
theorem LvOk.root {req : Bm → List Bm} {roots : List Bm} {T : By} {V : List Nat} (h : LvOk req roots T 0 V) (h1 : ∀ k (hk : k < V.length), V[k] = 1) {m : Bm} (hm : m ∈ roots) : ∃ V', LvOk req roots (comeT T m m) 0 V' ∧ ∀ k (hk : k < V'.length), V'[k] = 1 := by
  cases hc : cameB T m with
  | true => rw [come_yes hc]; exact ⟨V, h, h1⟩
  | false =>
    rw [come_no hc]
    refine ⟨V ++ [1], h.push (.root hm) (Or.inl ⟨rfl, rfl⟩) (fun k hk => by rw [h1 k hk]; exact Nat.le_refl _) (fun hi => by omega) (Nat.zero_le _) (fun _ => by omega) (fun _ => rfl), fun k hk => ?_⟩
    by_cases hK : k < V.length
    · rw [List.getElem_append_left hK]; exact h1 k hK
    · have : k = V.length := by simp at hk; omega
      subst this; simp
theorem LvOk.reqs {req : Bm → List Bm} {roots : List Bm} {T : By} {i : Nat} {V : List Nat} (h : LvOk req roots T i V) (hi : i < T.length) (hall : ∀ m, m ∈ roots → m ∈ whoT T) {m : Bm} (hm : m ∈ req T[i].1) : ∃ V', LvOk req roots (comeT T m T[i].1) i V' := by
  have hiV : i < V.length := by rw [h.ln]; exact hi
  cases hc : cameB T m with
  | true => rw [come_yes hc]; exact ⟨V, h⟩
  | false =>
    rw [come_no hc]
    exact ⟨V ++ [V[i] + 1], h.push (.step (h.wn i hi hiV) hm) (Or.inr ⟨i, hi, rfl, rfl⟩) (fun k hk => h.nx k hk hiV) (fun _ => Nat.le_refl _) (Nat.le_of_lt hi) (fun e => by omega) (fun hr => absurd (hall m hr) (cameB_not hc))⟩
theorem LvOk.next {req : Bm → List Bm} {roots : List Bm} {T : By} {i : Nat} {V : List Nat} (h : LvOk req roots T i V) (hi : i < T.length) (hr : ∀ m, m ∈ req T[i].1 → m ∈ whoT T) : LvOk req roots T (i + 1) V := by
  have hiV : i < V.length := by rw [h.ln]; exact hi
  refine ⟨h.ln, h.wn, h.st, h.mo, fun k hk hi1 => ?_, fun j hj hj' hji m hm => ?_, h.rt⟩
  · exact Nat.le_trans (h.nx k hk hiV) (Nat.succ_le_succ (h.mo i (i + 1) hi1 (Nat.lt_succ_self i)))
  · rcases Nat.lt_or_ge j i with h1 | h1
    · exact h.pr j hj hj' h1 m hm
    · have : j = i := by omega
      subst this
      obtain ⟨k, hk, e⟩ := whoT_mem.1 (hr m hm)
      exact ⟨k, hk, by rw [h.ln]; exact hk, e, h.nx k (by rw [h.ln]; exact hk) hiV⟩
structure Came (req : Bm → List Bm) (U roots : List Bm) (T : By) : Prop where
  b : Bfs req U roots T T.length
  r : ∀ m, m ∈ roots → m ∈ whoT T
  l : ∃ V, LvOk req roots T T.length V
theorem Came.iff {req : Bm → List Bm} {U roots : List Bm} {T : By} (h : Came req U roots T) (m : Bm) : m ∈ whoT T ↔ Rch req roots m := by
  constructor
  · intro hm
    obtain ⟨k, hk, rfl⟩ := whoT_mem.1 hm
    exact h.b.only k k hk (Nat.le_refl _)
  · intro hm
    induction hm with
    | root hr => exact h.r _ hr
    | step _ hr ih =>
      obtain ⟨k, hk, rfl⟩ := whoT_mem.1 ih
      exact h.b.cl k hk hk _ hr
theorem Came.cameB {req : Bm → List Bm} {U roots : List Bm} {T : By} (h : Came req U roots T) (m : Bm) : Ve.cameB T m = true ↔ Rch req roots m := by
  rw [cameB_iff]
  exact h.iff m
theorem Rch.mono {req : Bm → List Bm} {r r' : List Bm} (hs : ∀ m, m ∈ r → m ∈ r') {m : Bm} (h : Rch req r m) : Rch req r' m := by
  induction h with
  | root hr => exact .root (hs _ hr)
  | step _ hr ih => exact .step ih hr
inductive Wy (req : Bm → List Bm) (T : By) : Bm → Nat → List Bm → Prop
  | start {k : Nat} (h : k < T.length) : Wy req T T[k].1 k [T[k].1]
  | next {m : Bm} {k j : Nat} {Y : List Bm} : Wy req T m k Y → (hk : k < T.length) → (hj : j < k) → (T[j]'(Nat.lt_trans hj hk)).1 = T[k].2 → T[k].1 ∈ req T[k].2 → Wy req T m j ((T[j]'(Nat.lt_trans hj hk)).1 :: Y)
theorem Wy.pos {req : Bm → List Bm} {T : By} {m : Bm} {k : Nat} {Y : List Bm} (h : Wy req T m k Y) : 0 < Y.length := by
  cases h with
  | start h => simp
  | next h hk hj _ _ => simp
end Ve
end Go.Proofs.YtoaobngpdaidoaaGreatDoor


namespace Go.Proofs.YtoaobngpdaidoaaGreatDoor
open Go.RowKit
namespace Ve
def flatM (L : List Bm) : List Value := L.flatMap fun m => [.string m.1, .string m.2]
theorem flatM_len (L : List Bm) : (flatM L).length = L.length * 2 := by
  induction L with
  | nil => rfl
  | cons r R ih =>
    have : flatM (r :: R) = [.string r.1, .string r.2] ++ flatM R := rfl
    rw [this, List.length_append, ih]
    show 2 + R.length * 2 = (R.length + 1) * 2
    omega
theorem flatM_app (D E : List Bm) : flatM (D ++ E) = flatM D ++ flatM E := by simp [flatM]
theorem flatM_get : ∀ (D : List Bm) (j c : Nat) (hj : j < D.length) (_ : c < 2), (flatM D)[j * 2 + c]? = [Value.string D[j].1, Value.string D[j].2][c]?
  | [], _, _, hj, _ => absurd hj (Nat.not_lt_zero _)
  | r :: R, 0, c, _, hc => by
    have : flatM (r :: R) = [.string r.1, .string r.2] ++ flatM R := rfl
    rw [this, List.getElem?_append_left (by show 0 * 2 + c < 2; omega)]
    simp
  | r :: R, j + 1, c, hj, hc => by
    have : flatM (r :: R) = [.string r.1, .string r.2] ++ flatM R := rfl
    rw [this, List.getElem?_append_right (by show 2 ≤ (j + 1) * 2 + c; omega), show (j + 1) * 2 + c - [Value.string r.1, Value.string r.2].length = j * 2 + c by simp; omega]
    exact flatM_get R j c (by simpa using hj) hc
theorem own_ms {w : World} {base : Nat} {e : TypeId} {v : Value} {L : List Bm} (h : w.ownsRow base e 2 v L.length (flatM L)) : MsAt w v L := by
  obtain ⟨_, ⟨hv, hn0⟩ | ⟨g, cap, cur, hv, hg, hblk, hcap, hcm, hcs, hct⟩⟩ := h
  · exact ⟨none, 0, by rw [hv, hn0], by omega, fun hL => absurd (List.length_eq_zero_iff.1 hn0) hL⟩
  · refine ⟨_, cap, hv, hcap, fun _ => ⟨g, 0, rfl, fun j hj => ?_⟩⟩
    have go : ∀ c, c < 2 → w.cell? ⟨g, 0 + j * 2 + c, none⟩ = [Value.string L[j].1, Value.string L[j].2][c]? := fun c hc => by
      have h1 := flatM_get L j c hj hc
      rw [← hct, List.getElem?_take, if_pos (by omega)] at h1
      simp only [World.cell?, hblk]
      rw [← h1]; simp
    exact ⟨by have := go 0 (by omega); simpa using this, by have := go 1 (by omega); simpa using this⟩
theorem own_ne2 {w : World} {B : Nat} {e T : TypeId} {v : Value} {n : Nat} {xs : List Value} {b : Nat} {cs : Array Value} {fr : Nat × Nat} (hown : w.ownsRow B e 2 v n xs) (hb : w.heap[b]? = some (.cells cs T fr)) (hTe : T ≠ e) : v.ownBlock ≠ some b := by
  rcases hown.2 with ⟨rfl, _⟩ | ⟨g, cap, cur, rfl, _, hg, _⟩
  · simp [Value.ownBlock]
  · intro h
    simp only [Value.ownBlock, Option.some.injEq] at h
    subst h
    rw [hg] at hb
    simp only [Option.some.injEq, Obj.cells.injEq] at hb
    exact hTe hb.2.1.symm
theorem keep_set {W : World} {fb o b : Nat} {x : Value} {ob : Obj} (h : W.heap[b]? = some ob) (hne : b ≠ fb) : (W.setCell ⟨fb, o, none⟩ x).heap[b]? = some ob := by
  rw [Below.heap_setCell _ _ _ _ hne]; exact h
theorem set_block {W : World} {fb o : Nat} {cs : Array Value} {T : TypeId} {x : Value} (h : W.heap[fb]? = some (.cells cs T (0, 0))) : (W.setCell ⟨fb, o, none⟩ x).heap[fb]? = some (.cells (cs.setIfInBounds o x) T (0, 0)) := by
  simp [World.setCell, Array.getElem?_modify, h]
theorem owns_set {W : World} {B fb o n : Nat} {e : TypeId} {v x : Value} {xs : List Value} (h : W.ownsRow B e 2 v n xs) (hne : v.ownBlock ≠ some fb) : (W.setCell ⟨fb, o, none⟩ x).ownsRow B e 2 v n xs :=
  h.kept (row := some fb) ⟨rfl, rfl, rfl, by simp [World.setCell], fun k _ hk => Below.heap_setCell _ _ _ _ (fun e => hk (by simp [e]))⟩ (Or.inr hne)
theorem owns_far {W W3 : World} {B n : Nat} {e : TypeId} {v : Value} {xs : List Value} {row : Option Nat} (h : W.ownsRow B e 2 v n xs) (hg : W.grownBy W3 row) (hne : ∀ g, v.ownBlock = some g → row ≠ some g) : W3.ownsRow B e 2 v n xs := by
  obtain ⟨hl, h | ⟨g, cap, cur, e1, e2, e3, e4, e5, e6, e7⟩⟩ := h
  · exact ⟨hl, Or.inl h⟩
  · refine ⟨hl, Or.inr ⟨g, cap, cur, e1, e2, ?_, e4, e5, e6, e7⟩⟩
    rw [hg.block g (lt_of_blk e3) (fun h => hne g (by rw [e1]; rfl) h.symm)]; exact e3
theorem own_lt {W : World} {B n g : Nat} {e : TypeId} {v : Value} {xs : List Value} (h : W.ownsRow B e 2 v n xs) (hv : v.ownBlock = some g) : g < W.heap.size ∧ B ≤ g := by
  obtain ⟨hl, ⟨h, _⟩ | ⟨g', cap, cur, e1, e2, e3, _⟩⟩ := h
  · rw [h] at hv; cases hv
  · rw [e1] at hv
    have : g' = g := by simpa [Value.ownBlock] using hv
    subst this
    exact ⟨lt_of_blk e3, e2⟩
theorem heap_new (w : World) (o : Obj) : (w.alloc o).heap[w.heap.size]? = some o := heap_alloc_new w o
theorem heap_old (w : World) (o : Obj) {b : Nat} {x : Obj} (h : w.heap[b]? = some x) : (w.alloc o).heap[b]? = some x := by
  rw [((Below.refl w.heap.size w).alloc (Nat.le_refl _) o).block b (lt_of_blk h)]; exact h
theorem own_base {W : World} {B B' n : Nat} {e : TypeId} {v : Value} {xs : List Value} (h : W.ownsRow B e 2 v n xs) (hB : B' ≤ B) : W.ownsRow B' e 2 v n xs := by
  obtain ⟨hl, h | ⟨g, cap, cur, e1, e2, e3, e4, e5, e6, e7⟩⟩ := h
  · exact ⟨hl, Or.inl h⟩
  · exact ⟨hl, Or.inr ⟨g, cap, cur, e1, Nat.le_trans hB e2, e3, e4, e5, e6, e7⟩⟩
theorem own_sl {W : World} {B n : Nat} {e : TypeId} {v : Value} {xs : List Value} (h : W.ownsRow B e 2 v n xs) : ∃ a n c, v = .slice a n c := by
  obtain ⟨_, ⟨h, _⟩ | ⟨g, cap, cur, e1, _⟩⟩ := h
  · exact ⟨_, _, _, h⟩
  · exact ⟨_, _, _, e1⟩
theorem ms_flat {w : World} {b o : Nat} {L : List Bm} (hc : ∀ j (h : j < L.length), w.cell? ⟨b, o + j * 2, none⟩ = some (.string L[j].1) ∧ w.cell? ⟨b, o + j * 2 + 1, none⟩ = some (.string L[j].2)) : ∀ j u, (flatM L)[j]? = some u → w.cell? ⟨b, o + j, none⟩ = some u := by
  intro j u hj
  have hl : j < L.length * 2 := by rw [← flatM_len]; exact (List.getElem?_eq_some_iff.1 hj).1
  have h1 := flatM_get L (j / 2) (j % 2) (by omega) (by omega)
  rw [show j / 2 * 2 + j % 2 = j by omega, hj] at h1
  have h2 := hc (j / 2) (by omega)
  rcases Nat.mod_two_eq_zero_or_one j with e | e
  · rw [e] at h1
    have : u = .string L[j / 2].1 := by simpa using h1
    rw [this, ← h2.1]
    congr 2; omega
  · rw [e] at h1
    have : u = .string L[j / 2].2 := by simpa using h1
    rw [this, ← h2.2]
    congr 2; omega
theorem flat_one (L : List Bm) : ∀ u ∈ flatM L, u.oneCell' = true := by
  intro u hu
  obtain ⟨m, _, hm⟩ := List.mem_flatMap.1 hu
  simp at hm
  rcases hm with rfl | rfl <;> rfl
theorem infoMod : (Tryz.prog.info? 46).map (fun i => (i.zero, i.size, i.bytes)) = some (some (.agg #[.string ⟨#[]⟩, .string ⟨#[]⟩]), 2, 32) := by kernel_rfl
end Ve
end Go.Proofs.YtoaobngpdaidoaaGreatDoor


namespace Go.Proofs.YtoaobngpdaidoaaGreatDoor
open Go.RowKit Go.Maps
namespace Ve
theorem gLaidOut : laidOutB Tryz.prog = true := by kernel_rfl
theorem modRow : 46 < Tryz.prog.types.size := of_decide_eq_true (by kernel_rfl)
theorem modDeep : Tryz.prog.keyTypeAt 2 46 = true := by kernel_rfl
theorem modKeyT : Tryz.prog.keyType 46 = true := by kernel_rfl
theorem modKey : Keyed Tryz.prog 46 := Keyed.of_law (deep_law_laid gLaidOut (m := 2) (by omega) modRow modDeep (by kernel_rfl))
theorem gCellsMod : Tryz.prog.cellsOf 46 = 2 := by kernel_rfl
theorem gCellsStr : Tryz.prog.cellsOf 9 = 1 := by kernel_rfl
def modV (m : Bm) : Value := .agg #[.string m.1, .string m.2]
def kL (m : Bm) : Lit := .string (keyBytes [.string m.1.data.toList, .string m.2.data.toList])
theorem keyLits_mod (n : Nat) (m : Bm) (h1 : m.1.size ≤ maxLen) (h2 : m.2.size ≤ maxLen) : Tryz.prog.keyLits (n + 2) 46 [.string m.1, .string m.2] = some [.string m.1.data.toList, .string m.2.data.toList] := by
  unfold Program.keyLits
  rw [Tryz.underlying46]
  simp [gCellsMod, gCellsStr, Program.keyLits, Tryz.underlying9, h1, h2]
theorem keyOf_mod (m : Bm) (h1 : m.1.size ≤ maxLen) (h2 : m.2.size ≤ maxLen) : keyOf Tryz.prog 46 (modV m) = some (kL m) := by
  have hf : (modV m).formed Tryz.prog 46 = true := by
    simp [modV, Value.formed, Tryz.underlying46, gCellsMod]
  have hl : Tryz.prog.keyLits (Tryz.prog.types.size + 1) 46 (modV m).cells.toList = some [.string m.1.data.toList, .string m.2.data.toList] := by
    obtain ⟨n, hn⟩ : ∃ n, Tryz.prog.types.size + 1 = n + 2 := ⟨Tryz.prog.types.size - 1, by have := modRow; omega⟩
    rw [hn]
    exact keyLits_mod n m h1 h2
  unfold keyOf
  rw [Tryz.underlying46]
  simp only
  rw [if_pos (by rw [modKeyT, hf]; rfl), hl]
  rfl
theorem kL_inj {a b : Bm} (ha1 : a.1.size ≤ maxLen) (ha2 : a.2.size ≤ maxLen) (hb1 : b.1.size ≤ maxLen) (hb2 : b.2.size ≤ maxLen) (h : kL a = kL b) : a = b := by
  have h1 := keyOf_mod a ha1 ha2
  have h2 := keyOf_mod b hb1 hb2
  rw [h] at h1
  have := modKey.inj h1 h2
  simp only [modV, Value.agg.injEq, Array.mk.injEq, List.cons.injEq, Value.string.injEq, and_true] at this
  exact Prod.ext this.1 this.2
theorem kL_key (m : Bm) : WideAt.IsKeyLit (kL m) := trivial
def rB : Value → Option (DataW Bm × List MemPlace)
  | .agg cs => match cs.toList with
    | [.string a, .string b] => some (.held (a, b), [])
    | _ => none
  | _ => none
theorem rB_mod (m : Bm) : rB (modV m) = some (.held m, []) := rfl
theorem rB_inv {v : Value} {m : Bm} {ps : List MemPlace} (h : rB v = some (.held m, ps)) : v = modV m := by
  cases v with
  | agg cs =>
    simp only [rB] at h
    split at h
    · rename_i a b e
      simp only [Option.some.injEq, Prod.mk.injEq, DataW.held.injEq] at h
      obtain ⟨h1, _⟩ := h
      subst h1
      unfold modV
      congr 1
      exact Array.toList_inj.1 e
    · cases h
  | _ => cases h
def datB (T : By) : DataW Bm := T.foldl (fun D x => D.put (kL x.1) (.held x.2)) (.map [])
theorem datB_app (T : By) (m f : Bm) : datB (T ++ [(m, f)]) = (datB T).put (kL m) (.held f) := by simp [datB, List.foldl_append]
def szT (T : By) : Prop := ∀ x, x ∈ T → x.1.1.size ≤ maxLen ∧ x.1.2.size ≤ maxLen
theorem datB_has {m : Bm} (h1 : m.1.size ≤ maxLen) (h2 : m.2.size ≤ maxLen) : ∀ {T : By}, szT T → has (datB T) (kL m) = cameB T m := fun {T} hT => by
  suffices ∀ (T : By) (D : DataW Bm), IsMap D → szT T → has (T.foldl (fun D x => D.put (kL x.1) (.held x.2)) D) (kL m) = (has D (kL m) || cameB T m) by
    have := this T (.map []) isMap_empty hT
    unfold datB
    rw [this]
    simp [has_eq]
  intro T
  induction T with
  | nil => intro D _ _; simp [cameB]
  | cons x r ih =>
    intro D hD hs
    rw [List.foldl_cons, ih _ (hD.put _ _) (fun y hy => hs y (List.mem_cons_of_mem _ hy))]
    by_cases e : x.1 = m
    · subst e
      rw [has_put_same hD (kL_key _)]
      simp [cameB]
    · have hx := hs x (by simp)
      rw [has_put_other (fun he => e (kL_inj hx.1 hx.2 h1 h2 he.symm))]
      have : cameB (x :: r) m = cameB r m := by
        unfold cameB
        rw [List.any_cons, decide_eq_false (fun he => e (Prod.ext he.1 he.2)), Bool.false_or]
      rw [this]
theorem datB_held (T : By) (k : Lit) (z : Bm) : ∃ x, (datB T).atKey k (.held z) = .held x := by
  suffices ∀ (T : By) (D : DataW Bm), IsMap D → (∃ x, D.atKey k (.held z) = .held x) → ∃ x, (T.foldl (fun D x => D.put (kL x.1) (.held x.2)) D).atKey k (.held z) = .held x from this T _ isMap_empty ⟨z, rfl⟩
  intro T
  induction T with
  | nil => exact fun D _ h => h
  | cons x r ih =>
    intro D hD h
    refine ih _ (hD.put _ _) ?_
    by_cases e : k = kL x.1
    · subst e
      exact ⟨x.2, atKey_put_same hD (kL_key _) _ _⟩
    · rw [atKey_put_other e]
      exact h
def ByAt (w : World) (b : Nat) (T : By) : Prop := w.ownsMap Tryz.prog 46 rB b T.length (datB T)
theorem ByAt.below {w w' : World} {b : Nat} {T : By} (h : ByAt w b T) (hb : Below w.heap.size w w') : ByAt w' b T := by
  have hlt := World.ownsMap.lt h
  obtain ⟨es, clock, h1, F, hs, hD⟩ := h
  exact ⟨es, clock, (hb.block b hlt).trans h1, F, hs, hD⟩
theorem ByAt.heap {w w' : World} {b : Nat} {T : By} (h : ByAt w b T) (hb : w'.heap[b]? = w.heap[b]?) : ByAt w' b T := by
  obtain ⟨es, clock, h1, F, hs, hD⟩ := h
  exact ⟨es, clock, hb.trans h1, F, hs, hD⟩
theorem zeroMod (w : World) : (zeroValue 46).run Tryz.prog w = .ok (modV (⟨#[]⟩, ⟨#[]⟩)) w := Tryz.zeroValue46 w
set_option maxRecDepth 100000 in
set_option maxHeartbeats 1000000 in
theorem came_any (b : Nat) (T : By) (m : Bm) (w : World) (hm : m.1.size ≤ maxLen ∧ m.2.size ≤ maxLen) (hT : szT T) (h : ByAt w b T) :
    Calls Tryz.prog 94 #[.map (some b), .agg #[.string m.1, .string m.2]] w fun e w' => e = .returned (.bool (cameB T m)) ∧ Below w.heap.size w w' := by
  have HB := hid ((Below.refl w.heap.size w).alloc (Nat.le_refl _) (.cells #[.string m.1, .string m.2] 46))
  obtain ⟨v, ps, hrun, hv⟩ := World.ownsMap.look_ok (h.below HB.out) modKey Tryz.underlying121 (zeroMod _) (rB_mod _) (keyOf_mod m hm.1 hm.2)
  rw [datB_has hm.1 hm.2 hT] at hrun
  obtain ⟨x, hx⟩ := datB_held T (kL m) (⟨#[]⟩, ⟨#[]⟩)
  rw [hx] at hv
  obtain rfl := rB_inv hv
  unfold modV at hrun
  clear h hv hx hm hT
  go_enter Tryz.func94, Tryz.ntmps94
  go_wp2_with fail
  go_ret
  exact ⟨rfl, HB.out.alloc HB.out.size _⟩
end Ve
end Go.Proofs.YtoaobngpdaidoaaGreatDoor


namespace Go.Proofs.YtoaobngpdaidoaaGreatDoor
open Go.RowKit
namespace Ve
theorem modSame (p v q u : ByteArray) (w : World) : (Op.equalIn 10000 46 (.agg #[.string p, .string v]) (.agg #[.string q, .string u])).run Tryz.prog w = .ok (decide (p = q ∧ v = u)) w := by
  have u3 := Tryz.underlying9
  have a3 := Tryz.isAgg9
  have z3 := Tryz.sizeOf9
  have hS : Tryz.prog.underlying 46 = some (.struct (Tryz.prog.fieldsOf 46)) := by kernel_rfl
  have hp : Tryz.prog.stoodInHeld 46 = false := by kernel_rfl
  rw [show (10000 : Nat) = 9999 + 1 from rfl, run_equalIn_agg w 9999 46 _ _ hS hp]
  simp only [Program.fieldsOf, Tryz.underlying46]
  by_cases h1 : p = q
  · subst h1
    by_cases h2 : v = u
    · subst h2
      have e1 := str_refl p
      have e2 := str_refl v
      go_simp
    · have e1 := str_refl p
      have e2 := str_ne h2
      go_simp
  · have e1 := str_ne h1
    go_simp
theorem modEql (p v q u : ByteArray) (w : World) : (binOp .eql 46 (.agg #[.string p, .string v]) (.agg #[.string q, .string u])).run Tryz.prog w = .ok (.bool (decide (p = q ∧ v = u))) w := by
  rw [run_eql_struct, modSame]; rfl
theorem modNeq (p v q u : ByteArray) (w : World) : (binOp .neq 46 (.agg #[.string p, .string v]) (.agg #[.string q, .string u])).run Tryz.prog w = .ok (.bool (!decide (p = q ∧ v = u))) w := by
  rw [run_neq_struct, modSame]; rfl
theorem modGuard : Tryz.prog.eqGuardType Tryz.prog.depth 46 = false := by kernel_rfl
end Ve
end Go.Proofs.YtoaobngpdaidoaaGreatDoor


namespace Go.Proofs.YtoaobngpdaidoaaGreatDoor
open Go.RowKit
namespace Ve
abbrev Raw := Bm × Value × Value × Bool
def rawV (r : Raw) : Value := .agg #[.string r.1.1, .string r.1.2, r.2.1, r.2.2.1, .bool r.2.2.2]
def slR (r : Raw) : Prop := (∃ a n c, r.2.1 = .slice a n c) ∧ ∃ a n c, r.2.2.1 = .slice a n c
def EsAt (w : World) (v : Value) (L : List Raw) : Prop :=
  ∃ (a : Option Addr) (c : Nat), v = .slice a L.length c ∧ L.length ≤ c ∧ (∀ r, r ∈ L → slR r) ∧ (L ≠ [] → ∃ b o, a = some ⟨b, o, none⟩ ∧ ∀ j (h : j < L.length), w.cell? ⟨b, o + j * 5, none⟩ = some (.string L[j].1.1) ∧ w.cell? ⟨b, o + j * 5 + 1, none⟩ = some (.string L[j].1.2) ∧
    w.cell? ⟨b, o + j * 5 + 2, none⟩ = some L[j].2.1 ∧ w.cell? ⟨b, o + j * 5 + 3, none⟩ = some L[j].2.2.1 ∧ w.cell? ⟨b, o + j * 5 + 4, none⟩ = some (.bool L[j].2.2.2))
theorem EsAt.below {w w' : World} {v : Value} {L : List Raw} (h : EsAt w v L) (hb : Below w.heap.size w w') : EsAt w' v L := by
  obtain ⟨a, c, e, hc, hs, h⟩ := h
  refine ⟨a, c, e, hc, hs, fun hL => ?_⟩
  obtain ⟨b, o, e2, h2⟩ := h hL
  exact ⟨b, o, e2, fun j hj => ⟨cell_below hb (h2 j hj).1, cell_below hb (h2 j hj).2.1, cell_below hb (h2 j hj).2.2.1, cell_below hb (h2 j hj).2.2.2.1, cell_below hb (h2 j hj).2.2.2.2⟩⟩
def idxE (P : Raw → Bool) (L : List Raw) (i : Nat) : Nat := match L[i]? with
  | some r => if P r then 1 else 0
  | none => 0
def idxOf (P : Raw → Bool) (L : List Raw) : Int := match fstE (idxE P L) L.length with
  | some k => (k : Int)
  | none => -1
theorem idxE_at {P : Raw → Bool} {L : List Raw} {i : Nat} (h : i < L.length) : idxE P L i = if P L[i] then 1 else 0 := by unfold idxE; rw [List.getElem?_eq_getElem h]
theorem idxE_zero {P : Raw → Bool} {L : List Raw} {n : Nat} (hn : n ≤ L.length) (h : ∀ j (hj : j < L.length), j < n → P L[j] = false) : ∀ j, j < n → idxE P L j = 0 := fun j hj => by
  rw [idxE_at (by omega), h j (by omega) hj]; rfl
theorem idx_hit {P : Raw → Bool} {L : List Raw} {k : Nat} (hk : k < L.length) (h0 : ∀ j (hj : j < L.length), j < k → P L[j] = false) (h : P L[k] = true) : idxOf P L = (k : Int) := by
  unfold idxOf
  rw [fstE_some (idxE_zero (by omega) h0) (by rw [idxE_at hk, if_pos h]; decide) hk]
theorem idx_next {P : Raw → Bool} {L : List Raw} {k : Nat} (hk : k < L.length) (h0 : ∀ j (hj : j < L.length), j < k → P L[j] = false) (h : P L[k] = false) : ∀ j (hj : j < L.length), j < k + 1 → P L[j] = false := fun j hj hjk => by
  rcases Nat.lt_or_ge j k with h1 | h1
  · exact h0 j hj h1
  · have : j = k := by omega
    subst this; exact h
set_option maxHeartbeats 2000000 in
set_option maxRecDepth 100000 in
theorem idxF_some (K : Nat) (cb : Array Value) (P : Raw → Bool) (L : List Raw) (b o c : Nat) (w : World) (eg : ∀ args w, (callFunc K args).run Tryz.prog w = .ok (.enter K args) w) (hL : L.length ≤ 1000000) (hs : ∀ r, r ∈ L → slR r)
    (hc : ∀ j (h : j < L.length), w.cell? ⟨b, o + j * 5, none⟩ = some (.string L[j].1.1) ∧ w.cell? ⟨b, o + j * 5 + 1, none⟩ = some (.string L[j].1.2) ∧ w.cell? ⟨b, o + j * 5 + 2, none⟩ = some L[j].2.1 ∧ w.cell? ⟨b, o + j * 5 + 3, none⟩ = some L[j].2.2.1 ∧ w.cell? ⟨b, o + j * 5 + 4, none⟩ = some (.bool L[j].2.2.2))
    (hK : ∀ i (h : i < L.length) W, Below w.heap.size w W → Calls Tryz.prog K (#[rawV L[i]] ++ cb) W fun e w' => e = .returned (.bool (P L[i])) ∧ Below W.heap.size W w') :
    Calls Tryz.prog 65 #[.slice (some ⟨b, o, none⟩) L.length c, .func (.func K) #[] cb] w fun e w' => e = .returned (.int .i64 (idxOf P L)) ∧ Below w.heap.size w w' := by
  have HK := hid hK
  have HC := hid hc
  have HSL := hid hs
  generalize hr : idxOf P L = r
  have HR := hid hr
  clear hK hc hr hs
  go_enter Tryz.func65, Tryz.ntmps65
  go_wp2_with fail
  go_loopw [8] (fun i wr => ∃ k : Nat, k ≤ L.length ∧ i = .int .i64 k ∧ Hid (∀ j (h : j < L.length), j < k → P L[j] = false) ∧ Hid (Below w.heap.size w wr)) (fun i _ => L.length - (intOf i).toNat)
  case atStart => exact ⟨0, Nat.zero_le _, rfl, hid (fun j _ hj => absurd hj (by omega)), hid (Below.refl _ _)⟩
  case round =>
    obtain ⟨k, hk, rfl, HA, HB⟩ := hrel
    by_cases hlt : k < L.length
    · have HP := hid (HK.out k hlt wr HB.out)
      obtain ⟨y0, y1, y2, y3, y4⟩ := HC.out k hlt
      have x0 := cell_below HB.out y0
      have x1 := cell_below HB.out y1
      have x2 := cell_below HB.out y2
      have x3 := cell_below HB.out y3
      have x4 := cell_below HB.out y4
      obtain ⟨⟨ra, rn, rc, hrv⟩, pa, pn, pc, hpv⟩ := HSL.out L[k] (List.getElem_mem hlt)
      have hkI : (k : Int) < (L.length : Int) := by omega
      have HLT := hid hlt
      have HF := hid (fun h => idx_hit hlt HA.out h)
      have HN := hid (fun h => idx_next hlt HA.out h)
      rw [hrv] at x2
      rw [hpv] at x3
      unfold rawV at HP
      rw [hrv, hpv] at HP
      clear y0 y1 y2 y3 y4
      generalize hx : L[k] = x at *
      cases hp : P x
      · rw [hp] at HP
        have HN2 := hid (HN.out hp)
        clear hp hx hrv hpv hlt
        go_wp2_with fail
        refine HP.out.mono ?_
        rintro e w1 ⟨rfl, hb⟩
        have HB1 := hid (HB.out.trans (hb.mono HB.out.size))
        clear hb
        go_wp2_with fail
        go_roundw
        case rel => exact ⟨k + 1, by have := HLT.out; omega, by go_num, HN2, HB1⟩
        case measure => have := HLT.out; simp [intOf]; omega
      · rw [hp] at HP
        have HF2 := hid (HF.out hp)
        clear hp hx hrv hpv hlt
        go_wp2_with fail
        refine HP.out.mono ?_
        rintro e w1 ⟨rfl, hb⟩
        have HB1 := hid (HB.out.trans (hb.mono HB.out.size))
        clear hb
        go_wp2_with fail
        go_ret
        exact ⟨by rw [← HR.out, HF2.out]; rfl, HB1.out⟩
    · have HF := hid (show idxOf P L = -1 by unfold idxOf; rw [fstE_none (idxE_zero (Nat.le_refl _) (fun j hj _ => HA.out j hj (by omega)))])
      go_wp2_with fail
      go_ret
      exact ⟨by rw [← HR.out, HF.out]; rfl, HB.out⟩
theorem idxF_none (K : Nat) (cb : Array Value) (a : Option Addr) (c : Nat) (w : World) :
    Calls Tryz.prog 65 #[.slice a 0 c, .func (.func K) #[] cb] w fun e w' => e = .returned (.int .i64 (-1)) ∧ Below w.heap.size w w' := by
  go_enter Tryz.func65, Tryz.ntmps65
  go_wp2_with fail
  go_loopw [8] (fun i wr => i = .int .i64 0 ∧ wr = w) (fun i _ => 0)
  case atStart => exact ⟨rfl, rfl⟩
  case round =>
    obtain ⟨rfl, rfl⟩ := hrel
    go_wp2_with fail
    go_ret
    exact ⟨rfl, Below.refl _ _⟩
theorem idxF_any (K : Nat) (cb : Array Value) (P : Raw → Bool) (L : List Raw) (v : Value) (w : World) (eg : ∀ args w, (callFunc K args).run Tryz.prog w = .ok (.enter K args) w) (hL : L.length ≤ 1000000) (hv : EsAt w v L)
    (hK : ∀ i (h : i < L.length) W, Below w.heap.size w W → Calls Tryz.prog K (#[rawV L[i]] ++ cb) W fun e w' => e = .returned (.bool (P L[i])) ∧ Below W.heap.size W w') :
    Calls Tryz.prog 65 #[v, .func (.func K) #[] cb] w fun e w' => e = .returned (.int .i64 (idxOf P L)) ∧ Below w.heap.size w w' := by
  obtain ⟨a, c, rfl, _, hs, h⟩ := hv
  cases L with
  | nil => exact idxF_none K cb a c w
  | cons x r =>
    obtain ⟨b, o, rfl, h2⟩ := h (by simp)
    exact idxF_some K cb P (x :: r) b o c w eg hL hs h2 hK
def isM (m : Bm) (r : Raw) : Bool := decide (r.1.1 = m.1 ∧ r.1.2 = m.2)
set_option maxHeartbeats 1000000 in
theorem findK_any (m : Bm) (r : Raw) (hs : slR r) (b : Nat) (W : World) (h0 : W.cell? ⟨b, 0, none⟩ = some (.string m.1)) (h1 : W.cell? ⟨b, 1, none⟩ = some (.string m.2)) :
    Calls Tryz.prog 66 (#[rawV r] ++ #[.pointer (some ⟨b, 0, none⟩)]) W fun e w' => e = .returned (.bool (isM m r)) ∧ Below W.heap.size W w' := by
  obtain ⟨⟨p, v⟩, rv, pv, bk⟩ := r
  obtain ⟨⟨ra, rn, rc, rfl⟩, pa, pn, pc, rfl⟩ := hs
  have heq := fun W => modEql p v m.1 m.2 W
  have hgd := modGuard
  show Calls Tryz.prog 66 #[.agg #[.string p, .string v, .slice ra rn rc, .slice pa pn pc, .bool bk], .pointer (some ⟨b, 0, none⟩)] W _
  unfold isM
  have HB0 := hid ((Below.refl W.heap.size W).alloc (Nat.le_refl _) (.cells #[.string p, .string v, .slice ra rn rc, .slice pa pn pc, .bool bk] 56))
  have c0 := cell_below HB0.out h0
  have c1 := cell_below HB0.out h1
  have hbb : ¬ b = W.heap.size := by have := lt_of_cell h0; simp at this; omega
  have hbb2 : ¬ W.heap.size = b := fun h => hbb h.symm
  generalize decide (p = m.1 ∧ v = m.2) = z at *
  go_enter Tryz.func66, Tryz.ntmps66
  go_wp2_with fail
  go_ret
  exact ⟨rfl, HB0.out⟩
set_option maxHeartbeats 1000000 in
theorem find_any (L : List Raw) (m : Bm) (v : Value) (w : World) (hL : L.length ≤ 1000000) (hv : EsAt w v L) :
    Calls Tryz.prog 38 #[v, .agg #[.string m.1, .string m.2]] w fun e w' => e = .returned (.int .i64 (idxOf (isM m) L)) ∧ Below w.heap.size w w' := by
  obtain ⟨a, c, hv1, _, hs, _⟩ := id hv
  have HB0 := hid ((Below.refl w.heap.size w).alloc (Nat.le_refl _) (.cells #[.string m.1, .string m.2] 46))
  have eg : ∀ args w, (callFunc 66 args).run Tryz.prog w = .ok (.enter 66 args) w := enters_of Tryz.func66 (by kernel_rfl) rfl
  have HF := hid (idxF_any 66 #[.pointer (some ⟨w.heap.size, 0, none⟩)] (isM m) L v (w.alloc (.cells #[.string m.1, .string m.2] 46)) eg hL (hv.below HB0.out) (fun i hi W hW =>
    findK_any m L[i] (hs L[i] (List.getElem_mem hi)) w.heap.size W (cell_below hW (by simp)) (cell_below hW (by simp))))
  subst hv1
  clear hv hs eg
  go_enter Tryz.func38, Tryz.ntmps38
  go_wp2_with fail
  refine HF.out.mono ?_
  rintro e w1 ⟨rfl, hb⟩
  have HB := hid (HB0.out.trans (hb.mono HB0.out.size))
  clear hb
  go_wp2_with fail
  go_ret
  exact ⟨rfl, HB.out⟩
end Ve
end Go.Proofs.YtoaobngpdaidoaaGreatDoor


namespace Go.Proofs.YtoaobngpdaidoaaGreatDoor
open Go.RowKit
namespace Ve
theorem infoEnt : (Tryz.prog.info? 56).map (fun i => (i.zero, i.size, i.bytes)) = some (some (.agg #[.string ⟨#[]⟩, .string ⟨#[]⟩, .slice none 0 0, .slice none 0 0, .bool false]), 5, 88) := by kernel_rfl
def rowR (r : Raw) : List Value := [.string r.1.1, .string r.1.2, r.2.1, r.2.2.1, .bool r.2.2.2]
def flatR (L : List Raw) : List Value := L.flatMap rowR
theorem flatR_app (D E : List Raw) : flatR (D ++ E) = flatR D ++ flatR E := by simp [flatR]
theorem flatR_get : ∀ (D : List Raw) (j c : Nat) (hj : j < D.length) (_ : c < 5), (flatR D)[j * 5 + c]? = (rowR D[j])[c]?
  | [], _, _, hj, _ => absurd hj (Nat.not_lt_zero _)
  | r :: R, 0, c, _, hc => by
    have : flatR (r :: R) = rowR r ++ flatR R := rfl
    rw [this, List.getElem?_append_left (by show 0 * 5 + c < 5; omega)]
    simp
  | r :: R, j + 1, c, hj, hc => by
    have : flatR (r :: R) = rowR r ++ flatR R := rfl
    rw [this, List.getElem?_append_right (by show 5 ≤ (j + 1) * 5 + c; omega), show (j + 1) * 5 + c - (rowR r).length = j * 5 + c by show (j + 1) * 5 + c - 5 = _; omega]
    exact flatR_get R j c (by simpa using hj) hc
theorem own_es {w : World} {base : Nat} {e : TypeId} {v : Value} {L : List Raw} (hs : ∀ r, r ∈ L → slR r) (h : w.ownsRow base e 5 v L.length (flatR L)) : EsAt w v L := by
  obtain ⟨_, ⟨hv, hn0⟩ | ⟨g, cap, cur, hv, hg, hblk, hcap, hcm, hcs, hct⟩⟩ := h
  · exact ⟨none, 0, by rw [hv, hn0], by omega, hs, fun hL => absurd (List.length_eq_zero_iff.1 hn0) hL⟩
  · refine ⟨_, cap, hv, hcap, hs, fun _ => ⟨g, 0, rfl, fun j hj => ?_⟩⟩
    have go : ∀ c, c < 5 → w.cell? ⟨g, 0 + j * 5 + c, none⟩ = (rowR L[j])[c]? := fun c hc => by
      have h1 := flatR_get L j c hj hc
      rw [← hct, List.getElem?_take, if_pos (by omega)] at h1
      simp only [World.cell?, hblk]
      rw [← h1]; simp
    exact ⟨by have := go 0 (by omega); simpa [rowR] using this, by have := go 1 (by omega); simpa [rowR] using this, by have := go 2 (by omega); simpa [rowR] using this, by have := go 3 (by omega); simpa [rowR] using this, by have := go 4 (by omega); simpa [rowR] using this⟩
theorem own_nextR {W : World} {B : Nat} {e : TypeId} {v : Value} {L L' : List Raw} {x : Raw} (h : W.ownsRow B e 5 v (L.length + 1) (flatR L ++ rowR x)) (hl : L' = L ++ [x]) : W.ownsRow B e 5 v L'.length (flatR L') := by
  subst hl
  rw [List.length_append, flatR_app]
  have : flatR [x] = rowR x := by simp [flatR]
  rw [this]; exact h
theorem rel_app5 {B : Nat} {w wr w2 w3 : World} {e : TypeId} {v : Value} {n : Nat} {xs : List Value} {o : Obj} (hB : B ≤ wr.heap.size) (hb : Below B w wr) (hown : wr.ownsRow B e 5 v n xs) (hb2 : Below wr.heap.size wr w2)
    (hg : (w2.alloc o).grownBy w3 v.ownBlock) : Below B w w3 := by
  have h2 : Below B w w2 := hb.trans (hb2.mono hB)
  have h3 : Below B w (w2.alloc o) := h2.alloc (Nat.le_trans hB hb2.size) o
  exact h3.grown hg (by simp; exact Nat.le_succ_of_le (Nat.le_trans hB hb2.size)) (fun k hk => (hown.lt k hk).1)
theorem filter_snoc (P : Raw → Bool) {L : List Raw} {k : Nat} (hk : k < L.length) : (L.take (k + 1)).filter P = (L.take k).filter P ++ (if P L[k] then [L[k]] else []) := by
  rw [List.take_succ_eq_append_getElem hk, List.filter_append]
  simp [List.filter_cons]
theorem filter_yes {P : Raw → Bool} {L : List Raw} {k : Nat} (hk : k < L.length) (h : P L[k] = true) : (L.take (k + 1)).filter P = (L.take k).filter P ++ [L[k]] := by rw [filter_snoc P hk, h]; rfl
theorem filter_no {P : Raw → Bool} {L : List Raw} {k : Nat} (hk : k < L.length) (h : P L[k] = false) : (L.take (k + 1)).filter P = (L.take k).filter P := by rw [filter_snoc P hk, h]; simp
set_option maxHeartbeats 4000000 in
set_option maxRecDepth 100000 in
theorem where_some (K : Nat) (cb : Array Value) (P : Raw → Bool) (L : List Raw) (b o c : Nat) (w : World) (eg : ∀ args w, (callFunc K args).run Tryz.prog w = .ok (.enter K args) w) (hL : L.length ≤ 100000) (hs : ∀ r, r ∈ L → slR r)
    (hc : ∀ j (h : j < L.length), w.cell? ⟨b, o + j * 5, none⟩ = some (.string L[j].1.1) ∧ w.cell? ⟨b, o + j * 5 + 1, none⟩ = some (.string L[j].1.2) ∧ w.cell? ⟨b, o + j * 5 + 2, none⟩ = some L[j].2.1 ∧ w.cell? ⟨b, o + j * 5 + 3, none⟩ = some L[j].2.2.1 ∧ w.cell? ⟨b, o + j * 5 + 4, none⟩ = some (.bool L[j].2.2.2))
    (hK : ∀ i (h : i < L.length) W, Below w.heap.size w W → Calls Tryz.prog K (#[rawV L[i]] ++ cb) W fun e w' => e = .returned (.bool (P L[i])) ∧ Below W.heap.size W w') :
    Calls Tryz.prog 168 #[.slice (some ⟨b, o, none⟩) L.length c, .func (.func K) #[] cb] w fun e w' => ∃ v, e = .returned v ∧ w'.ownsRow w.heap.size 56 5 v (L.filter P).length (flatR (L.filter P)) ∧ Below w.heap.size w w' := by
  obtain ⟨i0, hi0, hz0, hz1, hz2⟩ := info_parts infoEnt
  have HK := hid hK
  have HC := hid hc
  have HSL := hid hs
  clear hK hc hs
  go_enter Tryz.func168, Tryz.ntmps168
  go_wp2_with fail
  go_loopw [5, 10] (fun ov i wr => ∃ k : Nat, k ≤ L.length ∧ i = .int .i64 k ∧ Hid (wr.ownsRow w.heap.size 56 5 ov ((L.take k).filter P).length (flatR ((L.take k).filter P))) ∧ Hid (Below w.heap.size w wr)) (fun _ i _ => L.length - (intOf i).toNat)
  case atStart => exact ⟨0, Nat.zero_le _, rfl, hid (World.ownsRow_nil _ _ _ _), hid (Below.refl _ _)⟩
  case round =>
    obtain ⟨k, hk, rfl, HO, HB⟩ := hrel
    by_cases hlt : k < L.length
    · obtain ⟨y0, y1, y2, y3, y4⟩ := HC.out k hlt
      have x0 := cell_below HB.out y0
      have x1 := cell_below HB.out y1
      have x2 := cell_below HB.out y2
      have x3 := cell_below HB.out y3
      have x4 := cell_below HB.out y4
      have hsl := HSL.out L[k] (List.getElem_mem hlt)
      have hkI : (k : Int) < (L.length : Int) := by omega
      have HLT := hid hlt
      have HY := hid (fun h => filter_yes hlt h (P := P))
      have HN := hid (fun h => filter_no hlt h (P := P))
      have HKK := hid (fun W hW => HK.out k hlt W hW)
      have HLN := hid (show ((L.take k).filter P).length ≤ 100000 from Nat.le_trans (List.length_filter_le _ _) (by rw [List.length_take]; omega))
      clear y0 y1 y2 y3 y4
      generalize L[k] = x at *
      obtain ⟨⟨p, q⟩, rv, pv, bk⟩ := x
      obtain ⟨⟨ra, rn, rc, hrv⟩, pa, pn, pc, hpv⟩ := hsl
      simp only at hrv hpv
      subst hrv
      subst hpv
      have HBa := hid (HB.out.alloc HB.out.size (.cells #[.string p, .string q, .slice ra rn rc, .slice pa pn pc, .bool bk] 56))
      have HP := hid (HKK.out _ HBa.out)
      have HOa := hid (HO.out.alloc (.cells #[.string p, .string q, .slice ra rn rc, .slice pa pn pc, .bool bk] 56))
      unfold rawV at HP
      clear hlt HKK
      cases hp : P ((p, q), .slice ra rn rc, .slice pa pn pc, bk)
      · rw [hp] at HP
        have HN2 := hid (HN.out hp)
        clear hp
        go_wp2_with fail
        refine HP.out.mono ?_
        rintro e w1 ⟨rfl, hb⟩
        have HB1 := hid (HBa.out.trans (hb.mono HBa.out.size))
        have HO1 := hid (owns_below HOa.out hb)
        clear hb
        go_wp2_with fail
        go_roundw
        case rel => exact ⟨k + 1, by have := HLT.out; omega, by go_num, by rw [HN2.out]; exact HO1, HB1⟩
        case measure => have := HLT.out; simp [intOf]; omega
      · rw [hp] at HP
        have HY2 := hid (HY.out hp)
        clear hp
        go_wp2_with fail
        refine HP.out.mono ?_
        rintro e w1 ⟨rfl, hb⟩
        have HB1 := hid (HBa.out.trans (hb.mono HBa.out.size))
        have HO1 := hid (owns_below HOa.out hb)
        have HE1 := hid (show w1.heap[wr.heap.size]? = some (.cells #[.string p, .string q, .slice ra rn rc, .slice pa pn pc, .bool bk] 56 (0, 0)) by rw [hb.block _ (by simp)]; exact heap_alloc_new wr _)
        have z0 : w1.cell? ⟨wr.heap.size, 0, none⟩ = some (.string p) := by rw [Lib.cell_of_heap HE1.out]; rfl
        have z1 : w1.cell? ⟨wr.heap.size, 1, none⟩ = some (.string q) := by rw [Lib.cell_of_heap HE1.out]; rfl
        have z2 : w1.cell? ⟨wr.heap.size, 2, none⟩ = some (.slice ra rn rc) := by rw [Lib.cell_of_heap HE1.out]; rfl
        have z3 : w1.cell? ⟨wr.heap.size, 3, none⟩ = some (.slice pa pn pc) := by rw [Lib.cell_of_heap HE1.out]; rfl
        have z4 : w1.cell? ⟨wr.heap.size, 4, none⟩ = some (.bool bk) := by rw [Lib.cell_of_heap HE1.out]; rfl
        clear hb x0 x1 x2 x3 x4
        go_wp2_with (at_builtin; refine wpList_append_own _ rfl _ _ 22 rfl w.heap.size 56 i0 _ 5 88 Tryz.underlying22 hi0 hz0 hz1 hz2 rfl (by decide) _ _ _ rfl (HO1.out.alloc _) ⟨w1.heap.size, 0, none⟩ 1 1 [.string p, .string q, .slice ra rn rc, .slice pa pn pc, .bool bk] rfl rfl ?c1 ?c2 ?c3 ?c4 ?c5 ?_)
        case c1 => exact World.news_of_block (cs := #[.string p, .string q, .slice ra rn rc, .slice pa pn pc, .bool bk]) (t := 56) (fr := (0, 0)) (heap_alloc_new w1 _)
        case c2 =>
          intro u hu
          simp at hu
          rcases hu with rfl | rfl | rfl | rfl | rfl <;> rfl
        case c3 => have := HLN.out; unfold maxLen; omega
        case c4 => have := HLN.out; omega
        case c5 => have := HB1.out.size; simp; omega
        intro v' w3 hown hgrow _
        have HR3 := hid (rel_app5 HB1.out.size HB1.out HO1.out (Below.refl _ _) hgrow)
        have HO3 := hid hown
        clear hown hgrow z0 z1 z2 z3 z4
        go_wp2_with fail
        go_roundw
        case rel => exact ⟨k + 1, by have := HLT.out; omega, by go_num, hid (own_nextR (x := ((p, q), .slice ra rn rc, .slice pa pn pc, bk)) HO3.out HY2.out), HR3⟩
        case measure => have := HLT.out; simp [intOf]; omega
    · have HTR := hid (show L.take k = L from List.take_of_length_le (by omega))
      rw [HTR.out] at HO
      have hkI : ¬ (k : Int) < (L.length : Int) := by omega
      clear hlt
      go_wp2_with fail
      go_ret
      exact ⟨_, rfl, HO.out, HB.out⟩
theorem where_none (K : Nat) (cb : Array Value) (a : Option Addr) (c : Nat) (w : World) :
    Calls Tryz.prog 168 #[.slice a 0 c, .func (.func K) #[] cb] w fun e w' => e = .returned (.slice none 0 0) ∧ Below w.heap.size w w' := by
  go_enter Tryz.func168, Tryz.ntmps168
  go_wp2_with fail
  go_loopw [5, 10] (fun ov i wr => ov = .slice none 0 0 ∧ i = .int .i64 0 ∧ wr = w) (fun _ i _ => 0)
  case atStart => exact ⟨rfl, rfl, rfl⟩
  case round =>
    obtain ⟨rfl, rfl, rfl⟩ := hrel
    go_wp2_with fail
    go_ret
    exact ⟨rfl, Below.refl _ _⟩
theorem where_any (K : Nat) (cb : Array Value) (P : Raw → Bool) (L : List Raw) (v : Value) (w : World) (eg : ∀ args w, (callFunc K args).run Tryz.prog w = .ok (.enter K args) w) (hL : L.length ≤ 100000) (hv : EsAt w v L)
    (hK : ∀ i (h : i < L.length) W, Below w.heap.size w W → Calls Tryz.prog K (#[rawV L[i]] ++ cb) W fun e w' => e = .returned (.bool (P L[i])) ∧ Below W.heap.size W w') :
    Calls Tryz.prog 168 #[v, .func (.func K) #[] cb] w fun e w' => ∃ v', e = .returned v' ∧ EsAt w' v' (L.filter P) ∧ Below w.heap.size w w' := by
  obtain ⟨a, c, rfl, _, hs, h⟩ := hv
  have hsf : ∀ r, r ∈ L.filter P → slR r := fun r hr => hs r (List.mem_filter.1 hr).1
  cases L with
  | nil => exact (where_none K cb a c w).mono fun e w' ⟨h1, h2⟩ => ⟨_, h1, ⟨none, 0, rfl, Nat.le_refl _, fun r hr => absurd hr (by simp), fun h => absurd rfl h⟩, h2⟩
  | cons x r =>
    obtain ⟨b, o, rfl, h2⟩ := h (by simp)
    exact (where_some K cb P (x :: r) b o c w eg hL hs h2 hK).mono fun e w' ⟨v', h1, h2, h3⟩ => ⟨v', h1, own_es hsf h2, h3⟩
end Ve
end Go.Proofs.YtoaobngpdaidoaaGreatDoor


namespace Go.Proofs.YtoaobngpdaidoaaGreatDoor
open Go.RowKit
namespace Ve
def okM (m : Bm) : Bool := decide (m.1.size ≤ 70) && decide (m.2.size ≤ 60)
def okL (L : List Bm) : Bool := decide (L.length ≤ 25) && L.all okM
theorem okL_iff {L : List Bm} (h : okL L = true) : L.length ≤ 25 ∧ ∀ m, m ∈ L → m.1.size ≤ 70 ∧ m.2.size ≤ 60 := by
  unfold okL at h
  rw [Bool.and_eq_true] at h
  refine ⟨of_decide_eq_true h.1, fun m hm => ?_⟩
  have := List.all_eq_true.1 h.2 m hm
  unfold okM at this
  rw [Bool.and_eq_true] at this
  exact ⟨of_decide_eq_true this.1, of_decide_eq_true this.2⟩
theorem all_take_next {L : List Bm} {k : Nat} (hk : k < L.length) (h : (L.take k).all okM = true) (hm : okM L[k] = true) : (L.take (k + 1)).all okM = true := by
  rw [List.take_succ_eq_append_getElem hk, List.all_append, h]
  simp [hm]
theorem all_not {L : List Bm} {k : Nat} (hk : k < L.length) (hm : okM L[k] = false) : L.all okM = false := by
  cases e : L.all okM
  · rfl
  · have := List.all_eq_true.1 e L[k] (List.getElem_mem hk)
    rw [hm] at this; cases this
set_option maxHeartbeats 1000000 in
theorem long_some (L : List Bm) (b o c : Nat) (w : World) (hn : L.length ≤ 25)
    (hc : ∀ j (h : j < L.length), w.cell? ⟨b, o + j * 2, none⟩ = some (.string L[j].1) ∧ w.cell? ⟨b, o + j * 2 + 1, none⟩ = some (.string L[j].2)) :
    Calls Tryz.prog 9 #[.slice (some ⟨b, o, none⟩) L.length c, .int .i64 25] w fun e w' => e = .returned (.int .i64 (if okL L then 0 else 1)) ∧ w' = w := by
  have HC := hid hc
  have HO := hid (show okL L = L.all okM by unfold okL; rw [decide_eq_true hn, Bool.true_and])
  have hn2 : ¬ (25 : Int) < (L.length : Int) := by omega
  generalize hr : (if okL L then (0 : Int) else 1) = r
  have HR := hid hr
  clear hc hr
  go_enter Tryz.func9, Tryz.ntmps9
  go_wp2_with fail
  go_loop [5] (fun i => ∃ k : Nat, k ≤ L.length ∧ i = .int .i64 k ∧ Hid ((L.take k).all okM = true)) (fun i => L.length - (intOf i).toNat)
  case atStart => exact ⟨0, Nat.zero_le _, rfl, hid rfl⟩
  case round =>
    obtain ⟨k, hk, rfl, HA⟩ := hrel
    by_cases hlt : k < L.length
    · have hx := (HC.out k hlt).1
      have hy := (HC.out k hlt).2
      have HN := hid (fun h => all_take_next hlt HA.out h)
      have HX := hid (fun h => all_not hlt h)
      have HLT := hid hlt
      have hkI : (k : Int) < (L.length : Int) := by omega
      generalize L[k] = x at *
      clear hlt
      obtain ⟨p, v⟩ := x
      by_cases h1 : p.size ≤ 70
      · have h1' : ¬ (70 : Int) < (p.size : Int) := by omega
        by_cases h2 : v.size ≤ 60
        · have h2' : ¬ (60 : Int) < (v.size : Int) := by omega
          have HT := hid (HN.out (by unfold okM; rw [decide_eq_true h1, decide_eq_true h2]; rfl))
          go_wp2_with fail
          go_round
          case rel => exact ⟨k + 1, by have := HLT.out; omega, by go_num, HT⟩
          case measure => have := HLT.out; simp [intOf]; omega
        · have h2' : (60 : Int) < (v.size : Int) := by omega
          have HT := hid (HX.out (by unfold okM; rw [decide_eq_true h1, decide_eq_false h2]; rfl))
          go_wp2_with fail
          go_ret
          exact ⟨by rw [← HR.out, HO.out, HT.out]; rfl, rfl⟩
      · have h1' : (70 : Int) < (p.size : Int) := by omega
        have HT := hid (HX.out (by unfold okM; rw [decide_eq_false h1]; rfl))
        go_wp2_with fail
        go_ret
        exact ⟨by rw [← HR.out, HO.out, HT.out]; rfl, rfl⟩
    · have HT := hid (show L.all okM = true by have := HA.out; rw [List.take_of_length_le (by omega)] at this; exact this)
      go_wp2_with fail
      go_ret
      exact ⟨by rw [← HR.out, HO.out, HT.out]; rfl, rfl⟩
theorem long_none (a : Option Addr) (c : Nat) (w : World) : Calls Tryz.prog 9 #[.slice a 0 c, .int .i64 25] w fun e w' => e = .returned (.int .i64 0) ∧ w' = w := by
  go_enter Tryz.func9, Tryz.ntmps9
  go_wp2_with fail
  go_loop [5] (fun i => i = .int .i64 0) (fun i => 0)
  case atStart => exact rfl
  case round =>
    obtain rfl := hrel
    go_wp2_with fail
    go_ret
    exact ⟨rfl, rfl⟩
theorem long_many (a : Option Addr) (n c : Nat) (w : World) (hn : 25 < n) : Calls Tryz.prog 9 #[.slice a n c, .int .i64 25] w fun e w' => e = .returned (.int .i64 1) ∧ w' = w := by
  have hn2 : (25 : Int) < (n : Int) := by omega
  go_enter Tryz.func9, Tryz.ntmps9
  go_wp2_with fail
  go_ret
  exact ⟨rfl, rfl⟩
theorem long_any (L : List Bm) (v : Value) (w : World) (hv : MsAt w v L) : Calls Tryz.prog 9 #[v, .int .i64 25] w fun e w' => e = .returned (.int .i64 (if okL L then 0 else 1)) ∧ w' = w := by
  obtain ⟨a, c, rfl, _, h⟩ := hv
  by_cases hn : L.length ≤ 25
  · cases L with
    | nil => exact long_none a c w
    | cons x r =>
      obtain ⟨b, o, rfl, h2⟩ := h (by simp)
      exact long_some (x :: r) b o c w hn h2
  · have : okL L = false := by unfold okL; rw [decide_eq_false hn]; rfl
    rw [this]
    exact long_many a L.length c w (by omega)
set_option maxHeartbeats 1000000 in
theorem sameM_some (L : List Bm) (b o c b' o' c' : Nat) (w : World) (hn : L.length ≤ 1000000)
    (hc : ∀ j (h : j < L.length), w.cell? ⟨b, o + j * 2, none⟩ = some (.string L[j].1) ∧ w.cell? ⟨b, o + j * 2 + 1, none⟩ = some (.string L[j].2))
    (hd : ∀ j (h : j < L.length), w.cell? ⟨b', o' + j * 2, none⟩ = some (.string L[j].1) ∧ w.cell? ⟨b', o' + j * 2 + 1, none⟩ = some (.string L[j].2)) :
    Calls Tryz.prog 15 #[.slice (some ⟨b, o, none⟩) L.length c, .slice (some ⟨b', o', none⟩) L.length c'] w fun e w' => e = .returned (.bool true) ∧ Below w.heap.size w w' := by
  have HC := hid hc
  have HD := hid hd
  have hgd := modGuard
  clear hc hd
  go_enter Tryz.func15, Tryz.ntmps15
  go_wp2_with fail
  go_loopw [5] (fun i wr => ∃ k : Nat, k ≤ L.length ∧ i = .int .i64 k ∧ Hid (Below w.heap.size w wr)) (fun i _ => L.length - (intOf i).toNat)
  case atStart => exact ⟨0, Nat.zero_le _, rfl, hid (Below.refl _ _)⟩
  case round =>
    obtain ⟨k, hk, rfl, HB⟩ := hrel
    by_cases hlt : k < L.length
    · have hx := cell_below HB.out (HC.out k hlt).1
      have hy := cell_below HB.out (HC.out k hlt).2
      have hx' := cell_below HB.out (HD.out k hlt).1
      have hy' := cell_below HB.out (HD.out k hlt).2
      have hne := fun W => modNeq L[k].1 L[k].2 L[k].1 L[k].2 W
      rw [decide_eq_true ⟨rfl, rfl⟩, Bool.not_true] at hne
      have hkI : (k : Int) < (L.length : Int) := by omega
      go_wp2_with fail
      go_quiet (fail)
      go_wp2_with fail
      go_roundw
      case rel => exact ⟨k + 1, by omega, by go_num, hid (below_drawn_of HB.out _)⟩
      case measure => simp [intOf]; omega
    · go_wp2_with fail
      go_ret
      exact ⟨rfl, HB.out⟩
theorem sameM_none (a a' : Option Addr) (c c' : Nat) (w : World) : Calls Tryz.prog 15 #[.slice a 0 c, .slice a' 0 c'] w fun e w' => e = .returned (.bool true) ∧ Below w.heap.size w w' := by
  go_enter Tryz.func15, Tryz.ntmps15
  go_wp2_with fail
  go_loopw [5] (fun i wr => i = .int .i64 0 ∧ wr = w) (fun i _ => 0)
  case atStart => exact ⟨rfl, rfl⟩
  case round =>
    obtain ⟨rfl, rfl⟩ := hrel
    go_wp2_with fail
    go_ret
    exact ⟨rfl, Below.refl _ _⟩
theorem sameM_any (L : List Bm) (v u : Value) (w : World) (hn : L.length ≤ 1000000) (hv : MsAt w v L) (hu : MsAt w u L) : Calls Tryz.prog 15 #[v, u] w fun e w' => e = .returned (.bool true) ∧ Below w.heap.size w w' := by
  obtain ⟨a, c, rfl, _, h⟩ := hv
  obtain ⟨a', c', rfl, _, h'⟩ := hu
  cases L with
  | nil => exact sameM_none a a' c c' w
  | cons x r =>
    obtain ⟨b, o, rfl, h2⟩ := h (by simp)
    obtain ⟨b', o', rfl, h3⟩ := h' (by simp)
    exact sameM_some (x :: r) b o c b' o' c' w hn h2 h3
end Ve
end Go.Proofs.YtoaobngpdaidoaaGreatDoor


namespace Go.Proofs.YtoaobngpdaidoaaGreatDoor
open Go.RowKit
namespace Ve
abbrev Ent := Bm × List Bm × List ByteArray × Bool
def TxAt (w : World) (v : Value) (X : List ByteArray) : Prop :=
  ∃ (a : Option Addr) (c : Nat), v = .slice a X.length c ∧ X.length ≤ c ∧ (X ≠ [] → ∃ b o, a = some ⟨b, o, none⟩ ∧ ∀ j (h : j < X.length), w.cell? ⟨b, o + j, none⟩ = some (.string X[j]))
theorem TxAt.below {w w' : World} {v : Value} {X : List ByteArray} (h : TxAt w v X) (hb : Below w.heap.size w w') : TxAt w' v X := by
  obtain ⟨a, c, e, hc, h⟩ := h
  refine ⟨a, c, e, hc, fun hL => ?_⟩
  obtain ⟨b, o, e2, h2⟩ := h hL
  exact ⟨b, o, e2, fun j hj => cell_below hb (h2 j hj)⟩
structure RawOk (w : World) (r : Raw) (e : Ent) : Prop where
  m : r.1 = e.1
  rq : MsAt w r.2.1 e.2.1
  pk : TxAt w r.2.2.1 e.2.2.1
  bk : r.2.2.2 = e.2.2.2
theorem RawOk.below {w w' : World} {r : Raw} {e : Ent} (h : RawOk w r e) (hb : Below w.heap.size w w') : RawOk w' r e := ⟨h.m, h.rq.below hb, h.pk.below hb, h.bk⟩
structure Ixs (w : World) (v : Value) (Q : List Raw) (L : List Ent) : Prop where
  es : EsAt w v Q
  ln : Q.length = L.length
  ok : ∀ j (h : j < Q.length) (h' : j < L.length), RawOk w Q[j] L[j]
theorem Ixs.below {w w' : World} {v : Value} {Q : List Raw} {L : List Ent} (h : Ixs w v Q L) (hb : Below w.heap.size w w') : Ixs w' v Q L := ⟨h.es.below hb, h.ln, fun j h1 h2 => (h.ok j h1 h2).below hb⟩
def okP (X : List ByteArray) : Bool := X.all fun x => decide (x.size ≤ 70)
def okE (e : Ent) : Bool := decide (e.1.1.size ≤ 70) && decide (e.1.2.size ≤ 60) && okL e.2.1 && decide (e.2.2.1.length ≤ 15) && okP e.2.2.1
def okN (n : Nat) : Bool := decide (n ≤ 30) || decide (n = 101)
def okI (L : List Ent) : Bool := okN L.length && L.all okE
def pfxE (L : List Ent) (k : Nat) : Bool := (L.take k).all okE
theorem okE_next {L : List Ent} {k : Nat} (hk : k < L.length) (h : pfxE L k = true) (hm : okE L[k] = true) : pfxE L (k + 1) = true := by
  unfold pfxE at h ⊢
  rw [List.take_succ_eq_append_getElem hk, List.all_append, h]
  simp [hm]
theorem okE_not {L : List Ent} {k : Nat} (hk : k < L.length) (hm : okE L[k] = false) : L.all okE = false := by
  cases e : L.all okE
  · rfl
  · have := List.all_eq_true.1 e L[k] (List.getElem_mem hk)
    rw [hm] at this; cases this
theorem okP_next {X : List ByteArray} {k : Nat} (hk : k < X.length) (h : okP (X.take k) = true) (hm : X[k].size ≤ 70) : okP (X.take (k + 1)) = true := by
  unfold okP at h ⊢
  rw [List.take_succ_eq_append_getElem hk, List.all_append, h]
  simp [hm]
theorem okP_not {X : List ByteArray} {k : Nat} (hk : k < X.length) (hm : ¬ X[k].size ≤ 70) : okP X = false := by
  cases e : okP X
  · rfl
  · have := List.all_eq_true.1 e X[k] (List.getElem_mem hk)
    exact absurd (of_decide_eq_true this) hm
theorem longI_many (a : Option Addr) (n c : Nat) (w : World) (h : okN n = false) : Calls Tryz.prog 8 #[.slice a n c] w fun e w' => e = .returned (.int .i64 1) ∧ Below w.heap.size w w' := by
  unfold okN at h
  rw [Bool.or_eq_false_iff] at h
  have h1 := of_decide_eq_false h.1
  have h2 := of_decide_eq_false h.2
  have q1 : (30 : Int) < (n : Int) := by omega
  have q2 : ((n : Int) != 101) = true := bne_iff_ne.2 (by omega)
  clear h h1 h2
  go_enter Tryz.func8, Tryz.ntmps8
  go_wp2_with fail
  go_ret
  exact ⟨rfl, Below.refl _ _⟩
theorem okN_yes {n : Nat} (h : okN n = true) : ¬ (30 : Int) < (n : Int) ∨ ((30 : Int) < (n : Int) ∧ ((n : Int) != 101) = false) := by
  unfold okN at h
  rw [Bool.or_eq_true] at h
  rcases h with h | h
  · left; have := of_decide_eq_true h; omega
  · right
    have := of_decide_eq_true h
    exact ⟨by omega, by rw [bne, beq_iff_eq.2 (show (n : Int) = 101 by omega)]; rfl⟩
set_option maxHeartbeats 8000000 in
set_option maxRecDepth 100000 in
theorem longI_any (Q : List Raw) (L : List Ent) (v : Value) (w : World) (I : Ixs w v Q L) : Calls Tryz.prog 8 #[v] w fun e w' => e = .returned (.int .i64 (if okI L then 0 else 1)) ∧ Below w.heap.size w w' := by
  obtain ⟨a, c, rfl, _, hs, hc⟩ := id I.es
  by_cases hn : okN Q.length = true
  · have HO := hid (show okI L = L.all okE by unfold okI; rw [← I.ln, hn, Bool.true_and])
    generalize hr : (if okI L then (0 : Int) else 1) = r
    have HR := hid hr
    have HI := hid I
    have hln := I.ln
    have hqn : Q.length ≤ 101 := by
      unfold okN at hn
      rw [Bool.or_eq_true] at hn
      rcases hn with h | h
      · have := of_decide_eq_true h; omega
      · have := of_decide_eq_true h; omega
    have HC := hid hc
    have HSL := hid hs
    clear I hr hc hs
    rcases okN_yes hn with h0 | ⟨h0, h0'⟩
    all_goals
      clear hn
      go_enter Tryz.func8, Tryz.ntmps8
      go_wp2_with fail
      go_loopw [3] (fun i wr => ∃ k : Nat, k ≤ L.length ∧ i = .int .i64 k ∧ Hid (pfxE L k = true) ∧ Hid (Below w.heap.size w wr)) (fun i _ => L.length - (intOf i).toNat)
      case atStart => exact ⟨0, Nat.zero_le _, rfl, hid rfl, hid (Below.refl _ _)⟩
      case round =>
        obtain ⟨k, hk, rfl, HA, HB⟩ := hrel
        by_cases hlt : k < L.length
        · have hkq : k < Q.length := by omega
          have hO := HI.out.ok k hkq hlt
          obtain ⟨b, o, ha, hcc⟩ := HC.out (by intro h; rw [h] at hkq; simp at hkq)
          subst ha
          obtain ⟨y0, y1, y2, y3, y4⟩ := hcc k hkq
          have x0 := cell_below HB.out y0
          have x1 := cell_below HB.out y1
          have x2 := cell_below HB.out y2
          have x3 := cell_below HB.out y3
          have y3' := y3
          have hkI : (k : Int) < (Q.length : Int) := by omega
          have HLT := hid hlt
          have HN := hid (fun h => okE_next hlt HA.out h)
          have HXX := hid (fun h => okE_not hlt h)
          clear hcc y0 y1 y2 y3 y4
          generalize L[k] = e at *
          generalize Q[k] = r at *
          clear hlt hkq
          obtain ⟨⟨p, q⟩, rv, pv, bk⟩ := r
          obtain ⟨⟨p', q'⟩, eR, eP, bk'⟩ := e
          obtain ⟨hm, hrq, hpk, _⟩ := hO
          simp only at hm hrq hpk x0 x1 x2 x3 y3'
          obtain ⟨rfl, rfl⟩ : p = p' ∧ q = q' := by injection hm with h1 h2; exact ⟨h1, h2⟩
          have HL := hid (long_any eR rv wr (hrq.below HB.out))
          obtain ⟨ra, rc, hrv, _⟩ := id hrq
          obtain ⟨pa, pc, hpv, _, hpc⟩ := id hpk
          subst hrv
          subst hpv
          have HPK := hid hpc
          clear hm hrq hpk hpc
          have HE := hid (show okE ((p, q), eR, eP, bk') = (decide (p.size ≤ 70) && decide (q.size ≤ 60) && okL eR && decide (eP.length ≤ 15) && okP eP) from rfl)
          by_cases h1 : p.size ≤ 70
          · have q1 : decide ((70 : Int) < (p.size : Int)) = false := decide_eq_false (by omega)
            by_cases h2 : q.size ≤ 60
            · have q2 : decide ((60 : Int) < (q.size : Int)) = false := decide_eq_false (by omega)
              cases h3 : okL eR
              · have HX := hid (HXX.out (by rw [HE.out, h3, Bool.and_false, Bool.false_and, Bool.false_and]))
                rw [h3] at HL
                clear h1 h2 h3
                go_wp2_with fail
                refine HL.out.mono ?_
                rintro e w1 ⟨rfl, rfl⟩
                go_wp2_with fail
                go_ret
                exact ⟨by rw [← HR.out, HO.out, HX.out]; rfl, HB.out⟩
              · rw [h3] at HL
                by_cases h4 : eP.length ≤ 15
                · have q4 : decide ((15 : Int) < (eP.length : Int)) = false := decide_eq_false (by omega)
                  have HE2 := hid (show okE ((p, q), eR, eP, bk') = okP eP by rw [HE.out, decide_eq_true h1, decide_eq_true h2, h3, decide_eq_true h4]; rfl)
                  have hp15 := h4
                  clear h1 h2 h3 h4
                  go_wp2_with fail
                  refine HL.out.mono ?_
                  rintro e w1 ⟨rfl, rfl⟩
                  go_wp2_with fail
                  go_loopw [4] (fun i wr' => ∃ k' : Nat, k' ≤ eP.length ∧ i = .int .i64 k' ∧ Hid (okP (eP.take k') = true) ∧ Hid (Below w.heap.size w wr')) (fun i _ => eP.length - (intOf i).toNat)
                  case atStart => exact ⟨0, Nat.zero_le _, rfl, hid rfl, HB⟩
                  case round =>
                    obtain ⟨k', hk', rfl, HA', HBq⟩ := hrel
                    have x3' := cell_below HBq.out y3'
                    by_cases hlt' : k' < eP.length
                    · obtain ⟨b', o', ha', hp'⟩ := HPK.out (by intro h; rw [h] at hlt'; simp at hlt')
                      subst ha'
                      have z := cell_below HBq.out (hp' k' hlt')
                      have hkI' : (k' : Int) < (eP.length : Int) := by omega
                      have HLT' := hid hlt'
                      have HN' := hid (fun h => okP_next hlt' HA'.out h)
                      have HX' := hid (fun h => okP_not hlt' h)
                      generalize eP[k'] = x at *
                      clear hp' hlt'
                      by_cases h5 : x.size ≤ 70
                      · have q5 : ¬ (70 : Int) < (x.size : Int) := by omega
                        have HN2 := hid (HN'.out h5)
                        clear h5
                        go_wp2_with fail
                        go_roundw
                        case rel => exact ⟨k' + 1, by have := HLT'.out; omega, by go_num, HN2, HBq⟩
                        case measure => have := HLT'.out; simp [intOf]; omega
                      · have q5 : (70 : Int) < (x.size : Int) := by omega
                        have HX := hid (HXX.out (by rw [HE2.out, HX'.out h5]))
                        clear h5
                        go_wp2_with fail
                        go_ret
                        exact ⟨by rw [← HR.out, HO.out, HX.out]; rfl, HBq.out⟩
                    · have HT' := hid (show okP eP = true by have := HA'.out; rw [List.take_of_length_le (by omega)] at this; exact this)
                      have HN2 := hid (HN.out (by rw [HE2.out, HT'.out]))
                      have hkI' : ¬ (k' : Int) < (eP.length : Int) := by omega
                      clear hlt'
                      go_wp2_with fail
                      go_roundw
                      case rel => first | exact ⟨k + 1, by have := HLT.out; omega, by go_num, HN2, HBq⟩ | exact ⟨k + 1, by have := HLT.out; omega, by omega, HN2⟩
                      case measure => have := HLT.out; simp [intOf]; omega
                · have q4 : decide ((15 : Int) < (eP.length : Int)) = true := decide_eq_true (by omega)
                  have HX := hid (HXX.out (by rw [HE.out, decide_eq_false h4, Bool.and_false, Bool.false_and]))
                  clear h1 h2 h3 h4
                  go_wp2_with fail
                  refine HL.out.mono ?_
                  rintro e w1 ⟨rfl, rfl⟩
                  go_wp2_with fail
                  go_ret
                  exact ⟨by rw [← HR.out, HO.out, HX.out]; rfl, HB.out⟩
            · have q2 : decide ((60 : Int) < (q.size : Int)) = true := decide_eq_true (by omega)
              have HX := hid (HXX.out (by rw [HE.out, decide_eq_false h2, Bool.and_false, Bool.false_and, Bool.false_and, Bool.false_and]))
              clear h1 h2
              go_wp2_with fail
              go_ret
              exact ⟨by rw [← HR.out, HO.out, HX.out]; rfl, HB.out⟩
          · have q1 : decide ((70 : Int) < (p.size : Int)) = true := decide_eq_true (by omega)
            have HX := hid (HXX.out (by rw [HE.out, decide_eq_false h1, Bool.false_and, Bool.false_and, Bool.false_and, Bool.false_and]))
            clear h1
            go_wp2_with fail
            go_ret
            exact ⟨by rw [← HR.out, HO.out, HX.out]; rfl, HB.out⟩
        · have HT := hid (show L.all okE = true by have := HA.out; unfold pfxE at this; rw [List.take_of_length_le (by omega)] at this; exact this)
          have hkI : ¬ (k : Int) < (Q.length : Int) := by omega
          go_wp2_with fail
          go_ret
          exact ⟨by rw [← HR.out, HO.out, HT.out]; rfl, HB.out⟩
  · have hf : okN Q.length = false := by simpa using hn
    have : okI L = false := by unfold okI; rw [← I.ln, hf]; rfl
    rw [this]
    exact longI_many a Q.length c w hf
end Ve
end Go.Proofs.YtoaobngpdaidoaaGreatDoor


namespace Go.Proofs.YtoaobngpdaidoaaGreatDoor
open Go.RowKit
namespace Ve
set_option maxHeartbeats 1000000 in
theorem ownM_some (b o c : Nat) (L : List Bm) (w : World) (hn : L.length ≤ 1000000) (hL : L ≠ []) (hc : ∀ j u, (flatM L)[j]? = some u → w.cell? ⟨b, o + j, none⟩ = some u) :
    Calls Tryz.prog 12 #[.slice (some ⟨b, o, none⟩) L.length c] w fun e w' => ∃ v, e = .returned v ∧ w'.ownsRow w.heap.size 46 2 v L.length (flatM L) ∧ Below w.heap.size w w' := by
  obtain ⟨i0, hi, hz0, hz1, hz2⟩ := info_parts infoMod
  have HC := hid hc
  have hpos : 0 < L.length := List.length_pos_iff.2 hL
  clear hc hL
  go_enter Tryz.func12, Tryz.ntmps12
  go_wp2_with (at_builtin; refine wpList_append_own _ rfl _ _ 23 rfl w.heap.size 46 i0 _ 2 32 Tryz.underlying23 hi hz0 hz1 hz2 rfl (by decide) _ _ _ rfl (World.ownsRow_nil _ _ _ _) ⟨b, o, none⟩ L.length c (flatM L) rfl ?qc1 ?qc2 ?qc3 ?qc4 ?qc5 ?qc6 ?_)
  case qc1 => exact flatM_len L
  case qc2 =>
    intro j u hj
    rw [Addr.add_lit]
    exact HC.out j u hj
  case qc3 => exact flat_one L
  case qc4 => rw [Nat.zero_add]; unfold maxLen; omega
  case qc5 => rw [Nat.zero_add]; omega
  case qc6 => exact Nat.le_refl _
  intro v' w1 hown hgrow hnil
  obtain ⟨va, vn, vc, rfl⟩ := own_sl hown
  have HO := hid hown
  have HG := hid hgrow
  clear hown hgrow hnil
  go_wp2_with fail
  go_ret
  refine ⟨_, rfl, by simpa using HO.out, ?_⟩
  exact (Below.refl _ w).grown HG.out (Nat.le_refl _) (by intro k hk; simp [Value.ownBlock] at hk)
set_option maxHeartbeats 1000000 in
theorem ownM_nil (w : World) : Calls Tryz.prog 12 #[.slice none 0 0] w fun e w' => e = .returned (.slice none 0 0) ∧ w' = w := by
  obtain ⟨i0, hi, hz0, hz1, hz2⟩ := info_parts infoMod
  go_enter Tryz.func12, Tryz.ntmps12
  go_wp2_with (at_builtin; refine wpList_append_own_none rfl _ _ 23 rfl w.heap.size 46 i0 2 Tryz.underlying23 hi _ _ _ rfl (World.ownsRow_nil _ _ _ _) rfl ?_)
  go_ret
  exact ⟨rfl, rfl⟩
set_option maxHeartbeats 1000000 in
theorem ownM_none (a : Addr) (c : Nat) (w : World) : Calls Tryz.prog 12 #[.slice (some a) 0 c] w fun e w' => e = .returned (.slice none 0 0) ∧ w' = w := by
  have hrun : ∀ ty, (Builtin.append_ #[23, 23] ty #[.slice none 0 0, .slice (some a) 0 c]).run Tryz.prog w = .ok (.slice none 0 0) w := fun ty => by
    obtain ⟨i0, hi, hz0, hz1, hz2⟩ := info_parts infoMod
    have hl : (loadCells a 0).run Tryz.prog w = .ok #[] w := by simpa using run_loadCells_list (P := Tryz.prog) w a [] (by simp)
    simp [Builtin.append_, run_underlying Tryz.underlying23, Builtin.lenOf, Builtin.firstCells, Go.sizeOf, typeInfo, hi, hl]
  go_enter Tryz.func12, Tryz.ntmps12
  go_wp2_with (at_builtin; refine Lib.wpList_append_run _ rfl _ _ _ _ rfl _ _ rfl rfl _ _ (hrun _) ?_)
  go_ret
  exact ⟨rfl, rfl⟩
def Em (v : Value) (L : List Bm) : Prop := ∀ a c, v = .slice a L.length c → L = [] → (Value.slice a 0 c = .slice none 0 0 ∨ ∃ a', Value.slice a 0 c = .slice (some a') 0 c)
theorem ownM_any (v : Value) (L : List Bm) (w : World) (hn : L.length ≤ 1000000) (hv : MsAt w v L) (hem : Em v L) :
    Calls Tryz.prog 12 #[v] w fun e w' => ∃ u, e = .returned u ∧ w'.ownsRow w.heap.size 46 2 u L.length (flatM L) ∧ (L = [] → u = .slice none 0 0) ∧ Below w.heap.size w w' := by
  obtain ⟨a, c, rfl, _, h⟩ := hv
  have hz : L = [] → _ := hem a c rfl
  cases L with
  | nil =>
    rcases hz rfl with hz | ⟨a', hz⟩
    · show Calls Tryz.prog 12 #[.slice a 0 c] w _
      rw [hz]
      exact (ownM_nil w).mono fun e w' ⟨h1, h2⟩ => ⟨_, h1, World.ownsRow_nil _ _ _ _, fun _ => rfl, by rw [h2]; exact Below.refl _ _⟩
    · show Calls Tryz.prog 12 #[.slice a 0 c] w _
      rw [hz]
      exact (ownM_none a' c w).mono fun e w' ⟨h1, h2⟩ => ⟨_, h1, World.ownsRow_nil _ _ _ _, fun _ => rfl, by rw [h2]; exact Below.refl _ _⟩
  | cons x r =>
    obtain ⟨b, o, rfl, h2⟩ := h (by simp)
    exact (ownM_some b o c (x :: r) w hn (by simp) (ms_flat h2)).mono fun e w' ⟨u, h1, h2, h3⟩ => ⟨u, h1, h2, (fun h => by cases h), h3⟩
end Ve
end Go.Proofs.YtoaobngpdaidoaaGreatDoor


namespace Go.Proofs.YtoaobngpdaidoaaGreatDoor
open Go.RowKit
namespace Ve
def EmT (v : Value) (X : List ByteArray) : Prop := ∀ a c, v = .slice a X.length c → X = [] → (Value.slice a 0 c = .slice none 0 0 ∨ ∃ a', Value.slice a 0 c = .slice (some a') 0 c)
theorem packs_run (X : List ByteArray) (pv : Value) (W : World) (B : Nat) (hB : B ≤ W.heap.size) (hn : X.length ≤ 1000) (h : TxAt W pv X) (he : EmT pv X) :
    ∃ v' W', (Builtin.append_ #[54, 54] 54 #[.slice none 0 0, pv]).run Tryz.prog W = .ok v' W' ∧ W'.ownsRow B 9 1 v' X.length (X.map Value.string) ∧ W.grownBy W' none := by
  obtain ⟨i0, hi, hz0, hz1, hz2⟩ := info_parts infoStr
  obtain ⟨a, c, rfl, hc, h2⟩ := h
  cases X with
  | nil =>
    rcases he a c rfl rfl with hz | ⟨a', hz⟩
    · refine ⟨.slice none 0 0, W, ?_, World.ownsRow_nil _ _ _ _, ⟨rfl, rfl, rfl, Nat.le_refl _, fun _ _ _ => rfl⟩⟩
      show (Builtin.append_ #[54, 54] 54 #[.slice none 0 0, .slice a 0 c]).run Tryz.prog W = _
      rw [hz]
      simp [Builtin.append_, run_underlying Tryz.underlying54, Builtin.lenOf, Builtin.firstCells, Go.sizeOf, typeInfo, hi]
    · refine ⟨.slice none 0 0, W, ?_, World.ownsRow_nil _ _ _ _, ⟨rfl, rfl, rfl, Nat.le_refl _, fun _ _ _ => rfl⟩⟩
      show (Builtin.append_ #[54, 54] 54 #[.slice none 0 0, .slice a 0 c]).run Tryz.prog W = _
      rw [hz]
      have hl : (loadCells a' 0).run Tryz.prog W = .ok #[] W := by simpa using run_loadCells_list (P := Tryz.prog) W a' [] (by simp)
      simp [Builtin.append_, run_underlying Tryz.underlying54, Builtin.lenOf, Builtin.firstCells, Go.sizeOf, typeInfo, hi, hl]
  | cons x r =>
    obtain ⟨b, o, rfl, hcell⟩ := h2 (by simp)
    obtain ⟨g, cap, w', hr, h3, h4, _, _⟩ := run_append_lies (P := Tryz.prog) W 54 54 B 9 i0 (.string ByteArray.empty) 1 16 Tryz.underlying54 hi hz0 hz1 hz2 rfl (by decide) (.slice none 0 0) 0 [] (World.ownsRow_nil _ _ _ _)
      ⟨b, o, none⟩ (x :: r).length c ((x :: r).map Value.string) (by simp) (fun j u hj => by
        rw [Addr.add_lit]
        obtain ⟨hj1, hj2⟩ := List.getElem?_eq_some_iff.1 hj
        have hj3 : j < (x :: r).length := by simpa using hj1
        have := hcell j hj3
        rw [this, ← hj2]; exact congrArg some (List.getElem_map ..).symm) (fun u hu => by
        obtain ⟨y, _, rfl⟩ := List.mem_map.1 hu
        rfl) (by simp) (by unfold maxLen; omega) (by omega) hB W.heap.size rfl
    rw [Nat.zero_add, List.nil_append] at h3
    rw [Nat.zero_add] at hr
    exact ⟨_, _, hr, h3, h4⟩
theorem own_tx {w : World} {B : Nat} {e : TypeId} {v : Value} {X : List ByteArray} (h : w.ownsRow B e 1 v X.length (X.map Value.string)) : TxAt w v X := by
  obtain ⟨_, ⟨hv, hn0⟩ | ⟨g, cap, cur, hv, hg, hblk, hcap, hcm, hcs, hct⟩⟩ := h
  · exact ⟨none, 0, by rw [hv, hn0], by omega, fun hL => absurd (List.length_eq_zero_iff.1 hn0) hL⟩
  · refine ⟨_, cap, hv, hcap, fun _ => ⟨g, 0, rfl, fun j hj => ?_⟩⟩
    have h1 : (X.map Value.string)[j]? = some (.string X[j]) := by simp [hj]
    rw [← hct, List.getElem?_take, if_pos (by omega)] at h1
    simp only [World.cell?, hblk]
    rw [← h1]; simp
theorem own_slN {W : World} {B n k : Nat} {e : TypeId} {v : Value} {xs : List Value} (h : W.ownsRow B e k v n xs) : ∃ a c, v = .slice a n c := by
  obtain ⟨_, ⟨hv, hn0⟩ | ⟨g, cap, cur, hv, _⟩⟩ := h
  · exact ⟨none, 0, by rw [hv, hn0]⟩
  · exact ⟨_, _, hv⟩
theorem own_kind {W W3 : World} {B B' k k' n n' : Nat} {e e' : TypeId} {v v' : Value} {xs xs' : List Value} (h : W.ownsRow B e k v n xs) (hg : W.grownBy W3 v'.ownBlock) (h' : W.ownsRow B' e' k' v' n' xs') (hne : e ≠ e') : W3.ownsRow B e k v n xs := by
  obtain ⟨hl, h | ⟨g, cap, cur, e1, e2, e3, e4, e5, e6, e7⟩⟩ := h
  · exact ⟨hl, Or.inl h⟩
  · refine ⟨hl, Or.inr ⟨g, cap, cur, e1, e2, ?_, e4, e5, e6, e7⟩⟩
    rw [hg.block g (lt_of_blk e3) (fun hh => ?_)]; exact e3
    obtain ⟨_, ⟨hv, _⟩ | ⟨g', cap', cur', hv, _, hb, _⟩⟩ := h'
    · rw [hv] at hh; simp [Value.ownBlock] at hh
    · rw [hv] at hh
      simp only [Value.ownBlock, Option.some.injEq] at hh
      subst hh
      rw [e3] at hb
      simp only [Option.some.injEq, Obj.cells.injEq] at hb
      exact hne hb.2.1
theorem own_none {W W3 : World} {B k n : Nat} {e : TypeId} {v : Value} {xs : List Value} (h : W.ownsRow B e k v n xs) (hg : W.grownBy W3 none) : W3.ownsRow B e k v n xs := by
  obtain ⟨hl, h | ⟨g, cap, cur, e1, e2, e3, e4, e5, e6, e7⟩⟩ := h
  · exact ⟨hl, Or.inl h⟩
  · refine ⟨hl, Or.inr ⟨g, cap, cur, e1, e2, ?_, e4, e5, e6, e7⟩⟩
    rw [hg.block g (lt_of_blk e3) (by simp)]; exact e3
theorem own_baseN {W : World} {B B' k n : Nat} {e : TypeId} {v : Value} {xs : List Value} (h : W.ownsRow B e k v n xs) (hB : B' ≤ B) : W.ownsRow B' e k v n xs := by
  obtain ⟨hl, h | ⟨g, cap, cur, e1, e2, e3, e4, e5, e6, e7⟩⟩ := h
  · exact ⟨hl, Or.inl h⟩
  · exact ⟨hl, Or.inr ⟨g, cap, cur, e1, Nat.le_trans hB e2, e3, e4, e5, e6, e7⟩⟩
theorem own_setN {W : World} {B k n b o : Nat} {e T : TypeId} {v x : Value} {xs : List Value} {cs : Array Value} {fr : Nat × Nat} (h : W.ownsRow B e k v n xs) (hb : W.heap[b]? = some (.cells cs T fr)) (hne : e ≠ T) : (W.setCell ⟨b, o, none⟩ x).ownsRow B e k v n xs := by
  obtain ⟨hl, h | ⟨g, cap, cur, e1, e2, e3, e4, e5, e6, e7⟩⟩ := h
  · exact ⟨hl, Or.inl h⟩
  · refine ⟨hl, Or.inr ⟨g, cap, cur, e1, e2, ?_, e4, e5, e6, e7⟩⟩
    rw [Below.heap_setCell _ _ _ _ (fun hh => ?_)]; exact e3
    subst hh
    rw [e3] at hb
    simp only [Option.some.injEq, Obj.cells.injEq] at hb
    exact hne hb.2.1
structure OwnE (B : Nat) (w : World) (r : Raw) (e : Ent) : Prop where
  m : r.1 = e.1
  rq : w.ownsRow B 46 2 r.2.1 e.2.1.length (flatM e.2.1)
  pk : w.ownsRow B 9 1 r.2.2.1 e.2.2.1.length (e.2.2.1.map Value.string)
  bk : r.2.2.2 = e.2.2.2
theorem OwnE.ok {B : Nat} {w : World} {r : Raw} {e : Ent} (h : OwnE B w r e) : RawOk w r e := ⟨h.m, own_ms h.rq, own_tx h.pk, h.bk⟩
theorem OwnE.sl {B : Nat} {w : World} {r : Raw} {e : Ent} (h : OwnE B w r e) : slR r := by
  obtain ⟨a, c, h1⟩ := own_slN h.rq
  obtain ⟨a', c', h2⟩ := own_slN h.pk
  exact ⟨⟨_, _, _, h1⟩, _, _, _, h2⟩
theorem OwnE.below {B : Nat} {w w' : World} {r : Raw} {e : Ent} (h : OwnE B w r e) (hb : Below w.heap.size w w') : OwnE B w' r e := ⟨h.m, owns_below h.rq hb, owns_below h.pk hb, h.bk⟩
theorem OwnE.noneg {B : Nat} {w w' : World} {r : Raw} {e : Ent} (h : OwnE B w r e) (hg : w.grownBy w' none) : OwnE B w' r e := ⟨h.m, own_none h.rq hg, own_none h.pk hg, h.bk⟩
theorem OwnE.kind {B B' k n : Nat} {w w' : World} {r : Raw} {e : Ent} {v : Value} {xs : List Value} (h : OwnE B w r e) (hg : w.grownBy w' v.ownBlock) (ho : w.ownsRow B' 56 k v n xs) : OwnE B w' r e :=
  ⟨h.m, own_kind h.rq hg ho (by decide), own_kind h.pk hg ho (by decide), h.bk⟩
theorem OwnE.set {B b o : Nat} {w : World} {r : Raw} {e : Ent} {x : Value} {cs : Array Value} {fr : Nat × Nat} (h : OwnE B w r e) (hb : w.heap[b]? = some (.cells cs 56 fr)) : OwnE B (w.setCell ⟨b, o, none⟩ x) r e :=
  ⟨h.m, own_setN h.rq hb (by decide), own_setN h.pk hb (by decide), h.bk⟩
structure OwnI (B : Nat) (w : World) (v : Value) (Q : List Raw) (L : List Ent) : Prop where
  ln : Q.length = L.length
  row : w.ownsRow B 56 5 v Q.length (flatR Q)
  es : ∀ j (h : j < Q.length) (h' : j < L.length), OwnE B w Q[j] L[j]
theorem OwnI.sl {B : Nat} {w : World} {v : Value} {Q : List Raw} {L : List Ent} (h : OwnI B w v Q L) : ∀ r, r ∈ Q → slR r := fun r hr => by
  obtain ⟨j, hj, rfl⟩ := List.getElem_of_mem hr
  exact (h.es j hj (by rw [← h.ln]; exact hj)).sl
theorem OwnI.ixs {B : Nat} {w : World} {v : Value} {Q : List Raw} {L : List Ent} (h : OwnI B w v Q L) : Ixs w v Q L := ⟨own_es h.sl h.row, h.ln, fun j h1 h2 => (h.es j h1 h2).ok⟩
theorem OwnI.below {B : Nat} {w w' : World} {v : Value} {Q : List Raw} {L : List Ent} (h : OwnI B w v Q L) (hb : Below w.heap.size w w') : OwnI B w' v Q L := ⟨h.ln, owns_below h.row hb, fun j h1 h2 => (h.es j h1 h2).below hb⟩
theorem OwnI.noneg {B : Nat} {w w' : World} {v : Value} {Q : List Raw} {L : List Ent} (h : OwnI B w v Q L) (hg : w.grownBy w' none) : OwnI B w' v Q L := ⟨h.ln, own_none h.row hg, fun j h1 h2 => (h.es j h1 h2).noneg hg⟩
theorem OwnI.set {B b o : Nat} {w : World} {v x : Value} {Q : List Raw} {L : List Ent} {cs : Array Value} {fr : Nat × Nat} (h : OwnI B w v Q L) (hb : w.heap[b]? = some (.cells cs 56 fr)) (hne : v.ownBlock ≠ some b) : OwnI B (w.setCell ⟨b, o, none⟩ x) v Q L := by
  refine ⟨h.ln, ?_, fun j h1 h2 => (h.es j h1 h2).set hb⟩
  obtain ⟨hl, hr | ⟨g, cap, cur, e1, e2, e3, e4, e5, e6, e7⟩⟩ := h.row
  · exact ⟨hl, Or.inl hr⟩
  · refine ⟨hl, Or.inr ⟨g, cap, cur, e1, e2, ?_, e4, e5, e6, e7⟩⟩
    rw [Below.heap_setCell _ _ _ _ (fun hh => hne (by rw [e1, hh]; rfl))]; exact e3
theorem OwnI.more {B : Nat} {w w' : World} {v v' : Value} {Q : List Raw} {L : List Ent} {k : Nat} {r : Raw} (hk : k < L.length) (h : OwnI B w v Q (L.take k)) (he : OwnE B w r L[k]) (hg : w.grownBy w' v.ownBlock)
    (ho : w'.ownsRow B 56 5 v' (Q.length + 1) (flatR Q ++ rowR r)) : OwnI B w' v' (Q ++ [r]) (L.take (k + 1)) := by
  have hl := h.ln
  have hlk : (L.take k).length = k := by rw [List.length_take]; omega
  refine ⟨?_, own_nextR ho rfl, fun j h1 h2 => ?_⟩
  · rw [List.length_append, hl, hlk, List.length_take]; show k + 1 = _; omega
  · by_cases hj : j < Q.length
    · have := (h.es j hj (by omega)).kind hg h.row
      rw [List.getElem_append_left hj, List.getElem_take]
      rw [List.getElem_take] at this; exact this
    · have hjk : j = k := by rw [List.length_append] at h1; simp at h1; omega
      subst hjk
      have hq : Q.length = j := by omega
      rw [List.getElem_append_right (by omega), List.getElem_take]
      simp only [hq, Nat.sub_self, List.getElem_cons_zero]
      exact he.kind hg h.row
def EmI (Q : List Raw) (L : List Ent) : Prop := ∀ j (h : j < Q.length) (h' : j < L.length), Em Q[j].2.1 L[j].2.1 ∧ EmT Q[j].2.2.1 L[j].2.2.1
structure Fits (e : Ent) : Prop where
  rq : e.2.1.length ≤ 1000
  pk : e.2.2.1.length ≤ 1000
set_option maxHeartbeats 8000000 in
set_option maxRecDepth 100000 in
theorem ownI_any (Q : List Raw) (L : List Ent) (v : Value) (w : World) (hn : L.length ≤ 1000) (I : Ixs w v Q L) (em : EmI Q L) (hf : ∀ e, e ∈ L → Fits e) :
    Calls Tryz.prog 10 #[v] w fun e w' => ∃ u Q', e = .returned u ∧ OwnI w.heap.size w' u Q' L ∧ Below w.heap.size w w' := by
  obtain ⟨i0, hi0, hz0, hz1, hz2⟩ := info_parts infoEnt
  obtain ⟨a, c, rfl, _, hs, hc⟩ := id I.es
  have HC := hid hc
  have HSL := hid hs
  have HI := hid I
  have HEM := hid em
  have HF := hid hf
  have hln := I.ln
  rw [hln]
  clear I hc hs em hf
  go_enter Tryz.func10, Tryz.ntmps10
  go_wp2_with fail
  go_loopw [3, 4] (fun ov i wr => ∃ k : Nat, k ≤ L.length ∧ i = .int .i64 k ∧ Hid (∃ Q', OwnI w.heap.size wr ov Q' (L.take k)) ∧ Hid (Below w.heap.size w wr)) (fun _ i _ => L.length - (intOf i).toNat)
  case atStart => exact ⟨0, Nat.zero_le _, rfl, hid ⟨[], rfl, World.ownsRow_nil _ _ _ _, fun j h => absurd h (Nat.not_lt_zero _)⟩, hid (Below.refl _ _)⟩
  case round =>
    obtain ⟨k, hk, rfl, HO, HB⟩ := hrel
    by_cases hlt : k < L.length
    · have hkq : k < Q.length := by omega
      have hO := HI.out.ok k hkq hlt
      have hE := HEM.out k hkq hlt
      have HFF := hid (HF.out L[k] (List.getElem_mem hlt))
      obtain ⟨Q', hQ'⟩ := HO.out
      have HQ := hid hQ'
      have hql : Q'.length = k := by rw [hQ'.ln, List.length_take]; omega
      obtain ⟨b, o, ha, hcc⟩ := HC.out (by intro h; rw [h] at hkq; simp at hkq)
      subst ha
      obtain ⟨y0, y1, y2, y3, y4⟩ := hcc k hkq
      have x0 := cell_below HB.out y0
      have x1 := cell_below HB.out y1
      have x2 := cell_below HB.out y2
      have x3 := cell_below HB.out y3
      have x4 := cell_below HB.out y4
      have hkI : (k : Int) < (L.length : Int) := by omega
      have HLT := hid hlt
      have HM := hid (fun (W W' : World) (u u' : Value) (r : Raw) (h : OwnI w.heap.size W u Q' (L.take k)) (he : OwnE w.heap.size W r L[k]) hg ho => OwnI.more (w' := W') (v' := u') hlt h he hg ho)
      have hsl := HSL.out Q[k] (List.getElem_mem hkq)
      have hnb : u3.ownBlock ≠ some wr.heap.size := fun hh => Nat.lt_irrefl _ (hQ'.row.lt _ hh).2
      clear hcc y0 y1 y2 y3 y4 hQ' HO
      generalize L[k] = e at *
      generalize Q[k] = r at *
      clear hlt hkq
      obtain ⟨⟨p, q⟩, rv, pv, bk⟩ := r
      obtain ⟨⟨p', q'⟩, eR, eP, bk'⟩ := e
      obtain ⟨hm, hrq, hpk, hbk⟩ := hO
      simp only at hm hrq hpk hbk x0 x1 x2 x3 x4 hE
      subst hbk
      obtain ⟨rfl, rfl⟩ : p = p' ∧ q = q' := by injection hm with h1 h2; exact ⟨h1, h2⟩
      have HRQ := hid (hrq.below HB.out)
      have HPK := hid (hpk.below HB.out)
      have HEE := hid hE
      obtain ⟨⟨ra, rn, rc, hrv⟩, pa, pn, pc, hpv⟩ := hsl
      simp only at hrv hpv
      subst hrv
      subst hpv
      clear hm hrq hpk hE
      have HB1 := hid (HB.out.alloc HB.out.size (.cells #[.string p, .string q, .slice ra rn rc, .slice pa pn pc, .bool bk] 56))
      have HBx := hid ((Below.refl wr.heap.size wr).alloc (Nat.le_refl _) (.cells #[.string p, .string q, .slice ra rn rc, .slice pa pn pc, .bool bk] 56))
      have HQ1 := hid (HQ.out.below HBx.out)
      have HOM := hid (ownM_any _ eR _ (Nat.le_trans HFF.out.rq (by decide)) (HRQ.out.below HBx.out) HEE.out.1)
      go_wp2_with fail
      refine HOM.out.mono ?_
      rintro e w1 ⟨u, rfl, hown, -, hb⟩
      have HU := hid (own_baseN hown (show w.heap.size ≤ _ from Nat.le_trans HB.out.size (by simp)))
      have HB2 := hid (HB1.out.trans (hb.mono HB1.out.size))
      have HQ2 := hid (HQ1.out.below hb)
      have HE2 := hid (show w1.heap[wr.heap.size]? = some (.cells #[.string p, .string q, .slice ra rn rc, .slice pa pn pc, .bool bk] 56 (0, 0)) by rw [hb.block _ (by simp)]; exact heap_alloc_new wr _)
      have HPK2 := hid (fun x => HPK.out.below ((HBx.out.trans (hb.mono (by simp))).setCell (p := ⟨wr.heap.size, 2, none⟩) (Nat.le_refl _) x))
      have hsz : w.heap.size ≤ wr.heap.size := HB.out.size
      have hsz1 : wr.heap.size < w1.heap.size := by have := hb.size; simp at this; omega
      obtain ⟨ua, uc, hu⟩ := own_slN hown
      subst hu
      have fz : ∀ o, w1.frozen? ⟨wr.heap.size, o, none⟩ = false := fun o => by simp [World.frozen?, HE2.out]
      clear hown hb x0 x1 x2 x3 x4 HOM
      have z0 : w1.cell? ⟨wr.heap.size, 0, none⟩ = some (.string p) := by rw [Lib.cell_of_heap HE2.out]; rfl
      have z1 : w1.cell? ⟨wr.heap.size, 1, none⟩ = some (.string q) := by rw [Lib.cell_of_heap HE2.out]; rfl
      have z2 : w1.cell? ⟨wr.heap.size, 2, none⟩ = some (.slice ra rn rc) := by rw [Lib.cell_of_heap HE2.out]; rfl
      have z3 : w1.cell? ⟨wr.heap.size, 3, none⟩ = some (.slice pa pn pc) := by rw [Lib.cell_of_heap HE2.out]; rfl
      have z4 : w1.cell? ⟨wr.heap.size, 4, none⟩ = some (.bool bk) := by rw [Lib.cell_of_heap HE2.out]; rfl
      have HRUN := hid (packs_run eP (.slice pa pn pc) (w1.setCell ⟨wr.heap.size, 2, none⟩ (.slice ua eR.length uc)) w.heap.size (by simp [World.setCell]; omega) HFF.out.pk (HPK2.out _) HEE.out.2)
      obtain ⟨pv', w3, hrun, hown3, hg3⟩ := HRUN.out
      have HRR := hid hrun
      have HB3 := hid ((HB2.out.setCell (p := ⟨wr.heap.size, 2, none⟩) hsz (.slice ua eR.length uc)).grown hg3 (by simp [World.setCell]; omega) (fun k hk => by cases hk))
      have HE3 := hid (show w3.heap[wr.heap.size]? = some (.cells #[.string p, .string q, .slice ua eR.length uc, .slice pa pn pc, .bool bk] 56 (0, 0)) by
        rw [hg3.block _ (by simp [World.setCell]; omega) (by simp)]; exact set_block HE2.out)
      have HPV := hid hown3
      have HUU := hid (own_none (own_setN HU.out HE2.out (o := 2) (x := .slice ua eR.length uc) (by decide)) hg3)
      have HQ3 := hid ((HQ2.out.set HE2.out hnb).noneg hg3)
      have hsz3 : wr.heap.size < w3.heap.size := lt_of_blk HE3.out
      obtain ⟨va, vc, hv⟩ := own_slN hown3
      subst hv
      clear hown3 hg3 HRUN hrun
      have fz3 : ∀ o, w3.frozen? ⟨wr.heap.size, o, none⟩ = false := fun o => by simp [World.frozen?, HE3.out]
      have y0 : w3.cell? ⟨wr.heap.size, 0, none⟩ = some (.string p) := by rw [Lib.cell_of_heap HE3.out]; rfl
      have y1 : w3.cell? ⟨wr.heap.size, 1, none⟩ = some (.string q) := by rw [Lib.cell_of_heap HE3.out]; rfl
      have y2 : w3.cell? ⟨wr.heap.size, 2, none⟩ = some (.slice ua eR.length uc) := by rw [Lib.cell_of_heap HE3.out]; rfl
      have y3 : w3.cell? ⟨wr.heap.size, 3, none⟩ = some (.slice pa pn pc) := by rw [Lib.cell_of_heap HE3.out]; rfl
      have y4 : w3.cell? ⟨wr.heap.size, 4, none⟩ = some (.bool bk) := by rw [Lib.cell_of_heap HE3.out]; rfl
      have HB4 := hid (HB3.out.setCell (p := ⟨wr.heap.size, 3, none⟩) hsz (.slice va eP.length vc))
      have HQ4 := hid (HQ3.out.set (o := 3) (x := .slice va eP.length vc) HE3.out hnb)
      have HEN := hid (show OwnE w.heap.size (w3.setCell ⟨wr.heap.size, 3, none⟩ (.slice va eP.length vc)) ((p, q), .slice ua eR.length uc, .slice va eP.length vc, bk) ((p, q), eR, eP, bk) from
        ⟨rfl, own_setN HUU.out HE3.out (by decide), own_setN HPV.out HE3.out (by decide), rfl⟩)
      have hk1000 : k < 1000 := by omega
      go_wp2_with (at_builtin; first
        | refine wpList_append_own _ rfl _ _ 22 rfl w.heap.size 56 i0 _ 5 88 Tryz.underlying22 hi0 hz0 hz1 hz2 rfl (by decide) _ _ _ rfl (HQ4.out.row.alloc _) ⟨w3.heap.size, 0, none⟩ 1 1 [.string p, .string q, .slice ua eR.length uc, .slice va eP.length vc, .bool bk] rfl rfl ?c1 ?c2 ?c3 ?c4 ?c5 ?_
        | refine Lib.wpList_append_run _ rfl _ _ _ _ rfl _ _ rfl rfl _ _ HRR.out ?_)
      case c1 => exact World.news_of_block (cs := #[.string p, .string q, .slice ua eR.length uc, .slice va eP.length vc, .bool bk]) (t := 56) (fr := (0, 0)) (by have := heap_alloc_new (w3.setCell ⟨wr.heap.size, 3, none⟩ (.slice va eP.length vc)) (.cells #[.string p, .string q, .slice ua eR.length uc, .slice va eP.length vc, .bool bk] 56); simpa [World.setCell] using this)
      case c2 =>
        intro u hu
        simp at hu
        rcases hu with rfl | rfl | rfl | rfl | rfl <;> rfl
      case c3 => unfold maxLen; omega
      case c4 => omega
      case c5 => simp [World.setCell]; omega
      intro v' w5 hown hgrow _
      have HBA := hid (HB4.out.alloc HB4.out.size (.cells #[.string p, .string q, .slice ua eR.length uc, .slice va eP.length vc, .bool bk] 56))
      have HB5 := hid (HBA.out.grown hgrow HBA.out.size (fun k hk => (HQ4.out.row.lt k hk).1))
      have HBy := hid ((Below.refl _ (w3.setCell ⟨wr.heap.size, 3, none⟩ (.slice va eP.length vc))).alloc (Nat.le_refl _) (.cells #[.string p, .string q, .slice ua eR.length uc, .slice va eP.length vc, .bool bk] 56))
      have HR := hid (HM.out _ _ _ _ ((p, q), .slice ua eR.length uc, .slice va eP.length vc, bk) (HQ4.out.below HBy.out) (HEN.out.below HBy.out) hgrow (by rw [hql]; exact hown))
      clear hown hgrow y0 y1 y2 y3 y4 fz3 z0 z1 z2 z3 z4 fz
      go_wp2_with fail
      go_roundw
      case rel => exact ⟨k + 1, by have := HLT.out; omega, by go_num, hid ⟨_, HR.out⟩, HB5⟩
      case measure => have := HLT.out; simp [intOf]; omega
    · have HTR := hid (show L.take k = L from List.take_of_length_le (by omega))
      have hkI : ¬ (k : Int) < (L.length : Int) := by omega
      clear hlt
      go_wp2_with fail
      go_ret
      obtain ⟨Q', hQ'⟩ := HO.out
      rw [HTR.out] at hQ'
      exact ⟨_, rfl, ⟨Q', hQ'⟩, HB.out⟩
end Ve
end Go.Proofs.YtoaobngpdaidoaaGreatDoor


namespace Go.Proofs.YtoaobngpdaidoaaGreatDoor
open Go.RowKit Go.Maps
namespace Ve
structure Wk (w0 W : World) (bb ob mb : Nat) (T : By) : Prop where
  bl : Below w0.heap.size w0 W
  sz : szT T
  b1 : w0.heap.size ≤ bb
  b2 : w0.heap.size ≤ ob
  b3 : w0.heap.size ≤ mb
  bc : W.heap[bb]? = some (.cells #[.map (some mb)] 121 (0, 0))
  mp : ByAt W mb T
  oc : ∃ ov, W.heap[ob]? = some (.cells #[ov] 23 (0, 0)) ∧ W.ownsRow w0.heap.size 46 2 ov T.length (flatM (whoT T))
theorem Wk.below {w0 W W' : World} {bb ob mb : Nat} {T : By} (h : Wk w0 W bb ob mb T) (hb : Below W.heap.size W W') : Wk w0 W' bb ob mb T := by
  obtain ⟨ov, h1, h2⟩ := h.oc
  exact ⟨h.bl.trans (hb.mono h.bl.size), h.sz, h.b1, h.b2, h.b3, (hb.block _ (lt_of_blk h.bc)).trans h.bc, h.mp.below hb, ov, (hb.block _ (lt_of_blk h1)).trans h1, owns_below h2 hb⟩
theorem flatM_who (T : By) (m f : Bm) : flatM (whoT (T ++ [(m, f)])) = flatM (whoT T) ++ [.string m.1, .string m.2] := by
  rw [whoT_app, flatM_app]; simp [flatM]
theorem ByAt.block {w : World} {b : Nat} {T : By} (h : ByAt w b T) : ∃ es clock, w.heap[b]? = some (.map es clock) := by
  obtain ⟨es, clock, h1, _⟩ := h
  exact ⟨es, clock, h1⟩
theorem ByAt.ne {w : World} {b g : Nat} {T : By} {cs : Array Value} {t : TypeId} {fr : Nat × Nat} (h : ByAt w b T) (hg : w.heap[g]? = some (.cells cs t fr)) : g ≠ b := fun e => by
  obtain ⟨es, clock, h1⟩ := h.block
  subst e
  rw [h1] at hg
  cases hg
theorem ByAt.far {w w2 : World} {b B n : Nat} {T : By} {v : Value} {e : TypeId} {xs : List Value} (h : ByAt w b T) (hg : w.grownBy w2 (some b)) (ho : w.ownsRow B e 2 v n xs) : w2.ownsRow B e 2 v n xs :=
  owns_far ho hg fun g hv => by
    obtain ⟨hl, ⟨h1, _⟩ | ⟨g', cap, cur, e1, e2, e3, _⟩⟩ := ho
    · rw [h1] at hv; cases hv
    · rw [e1] at hv
      have : g' = g := by simpa [Value.ownBlock] using hv
      subst this
      intro e
      exact h.ne e3 (by simpa using e.symm)
theorem Wk.more {w0 w1 w2 w3 : World} {bb ob mb : Nat} {T : By} {m f : Bm} {ov v' : Value} {o : Obj} (h : Wk w0 w1 bb ob mb T) (hm : m.1.size ≤ maxLen ∧ m.2.size ≤ maxLen) (o1 : w1.heap[ob]? = some (.cells #[ov] 23 (0, 0))) (o2 : w1.ownsRow w0.heap.size 46 2 ov T.length (flatM (whoT T)))
    (hown : w2.ownsMap Tryz.prog 46 rB mb (T.length + 1) ((datB T).put (kL m) (.held f))) (hg : w1.grownBy w2 (some mb)) (hown3 : w3.ownsRow w0.heap.size 46 2 v' (T.length + 1) (flatM (whoT T) ++ [.string m.1, .string m.2])) (hg3 : (w2.alloc o).grownBy w3 ov.ownBlock) :
    Wk w0 (w3.setCell ⟨ob, 0, none⟩ v') bb ob mb (T ++ [(m, f)]) := by
  have hs1 := h.bl.size
  have l1 := lt_of_blk h.bc
  have l2 := lt_of_blk o1
  obtain ⟨es, clock, hm1⟩ := ByAt.block h.mp
  have l3 := lt_of_blk hm1
  have n1 : bb ≠ mb := h.mp.ne h.bc
  have n2 : ob ≠ mb := h.mp.ne o1
  have n3 : bb ≠ ob := fun e => by
    subst e
    have := h.bc.symm.trans o1
    simp at this
  have o2' := h.mp.far hg o2
  have r1 : ov.ownBlock ≠ some bb := own_ne2 o2 h.bc (by decide)
  have r2 : ov.ownBlock ≠ some ob := own_ne2 o2 o1 (by decide)
  have r3 : ov.ownBlock ≠ some mb := fun e => by
    obtain ⟨hl, ⟨h1, _⟩ | ⟨g', cap, cur, e1, e2, e3, _⟩⟩ := o2
    · rw [h1] at e; cases e
    · rw [e1] at e
      have : g' = mb := by simpa [Value.ownBlock] using e
      exact h.mp.ne e3 this
  have sz2 := hg.size
  have step : ∀ b, b < w1.heap.size → b ≠ mb → ov.ownBlock ≠ some b → w3.heap[b]? = w1.heap[b]? := fun b hb hne hr => by
    rw [hg3.block b (by simp; omega) (fun e => hr e.symm), ((Below.refl w2.heap.size w2).alloc (Nat.le_refl _) o).block b (by omega), hg.block b hb (by simp [hne])]
  have q1 := (step bb l1 n1 r1).trans h.bc
  have q2 := (step ob l2 n2 r2).trans o1
  have q3 : w3.heap[mb]? = w2.heap[mb]? := by
    rw [hg3.block mb (by simp; omega) (fun e => r3 e.symm), ((Below.refl w2.heap.size w2).alloc (Nat.le_refl _) o).block mb (by omega)]
  have b2 : Below w0.heap.size w0 w2 := h.bl.grown hg hs1 (fun k hk => by cases hk; exact h.b3)
  have b3 : Below w0.heap.size w0 w3 := (b2.alloc b2.size o).grown hg3 (by simp; have := b2.size; omega) (fun k hk => (o2.lt k hk).1)
  refine ⟨b3.setCell (p := ⟨ob, 0, none⟩) h.b2 v', ?_, h.b1, h.b2, h.b3, keep_set q1 n3, ?_, v', ?_, ?_⟩
  · intro x hx
    rcases List.mem_append.1 hx with hx | hx
    · exact h.sz x hx
    · simp at hx; subst hx; exact hm
  · unfold ByAt
    rw [datB_app, List.length_append]
    obtain ⟨es2, clock2, h1, F, hs, hD⟩ := hown
    exact ⟨es2, clock2, by rw [Below.heap_setCell _ _ _ _ (Ne.symm n2), q3]; exact h1, F, hs, hD⟩
  · have := set_block (o := 0) (x := v') q2
    simpa using this
  · rw [flatM_who, List.length_append]
    exact owns_set hown3 (own_ne2 hown3 q2 (by decide))
set_option maxRecDepth 100000 in
set_option maxHeartbeats 2000000 in
theorem come_any (w0 W : World) (bb ob mb : Nat) (T : By) (m f : Bm) (hm : m.1.size ≤ maxLen ∧ m.2.size ≤ maxLen) (hl : T.length ≤ 1000) (h : Wk w0 W bb ob mb T) :
    Calls Tryz.prog 138 #[.agg #[.string m.1, .string m.2], .agg #[.string f.1, .string f.2], .pointer (some ⟨bb, 0, none⟩), .pointer (some ⟨ob, 0, none⟩)] W fun e w' => e = .returned (.tuple #[]) ∧ Wk w0 w' bb ob mb (comeT T m f) := by
  obtain ⟨i0, hi0, hz0, hz1, hz2⟩ := info_parts infoMod
  have HBa := hid (((Below.refl W.heap.size W).alloc (Nat.le_refl _) (.cells #[.string m.1, .string m.2] 46)).alloc (by simp) (.cells #[.string f.1, .string f.2] 46))
  have HW := hid (h.below HBa.out)
  have HC := hid (came_any mb T m _ hm HW.out.sz HW.out.mp)
  have c0 : ((W.alloc (.cells #[.string m.1, .string m.2] 46)).alloc (.cells #[.string f.1, .string f.2] 46)).cell? ⟨bb, 0, none⟩ = some (.map (some mb)) := by rw [Lib.cell_of_heap HW.out.bc]; rfl
  have HM := hid hm
  clear h hm
  go_enter Tryz.func138, Tryz.ntmps138
  go_wp2_with fail
  refine HC.out.mono ?_
  rintro e w1 ⟨rfl, hb⟩
  have HW1 := hid (HW.out.below hb)
  have e0 : w1.heap[W.heap.size]? = some (.cells #[.string m.1, .string m.2] 46 (0, 0)) := by
    rw [hb.block _ (by simp; omega)]; exact heap_old _ _ (heap_new W _)
  have e1 : w1.heap[W.heap.size + 1]? = some (.cells #[.string f.1, .string f.2] 46 (0, 0)) := by
    rw [hb.block _ (by simp)]
    have := heap_new (W.alloc (.cells #[.string m.1, .string m.2] 46)) (.cells #[.string f.1, .string f.2] 46)
    rw [show (W.alloc (.cells #[.string m.1, .string m.2] 46)).heap.size = W.heap.size + 1 by simp] at this
    exact this
  clear hb
  cases hc : cameB T m with
  | true =>
    go_wp2_with fail
    go_end0
    exact ⟨rfl, by rw [come_yes hc]; exact HW1.out⟩
  | false =>
    have HCN := hid hc
    obtain ⟨ov, o1, o2⟩ := HW1.out.oc
    have HO1 := hid o1
    have HO2 := hid o2
    have k0 : w1.cell? ⟨bb, 0, none⟩ = some (.map (some mb)) := by rw [Lib.cell_of_heap HW1.out.bc]; rfl
    have k1 : w1.cell? ⟨W.heap.size, 0, none⟩ = some (.string m.1) := by rw [Lib.cell_of_heap e0]; rfl
    have k2 : w1.cell? ⟨W.heap.size, 1, none⟩ = some (.string m.2) := by rw [Lib.cell_of_heap e0]; rfl
    have k3 : w1.cell? ⟨W.heap.size + 1, 0, none⟩ = some (.string f.1) := by rw [Lib.cell_of_heap e1]; rfl
    have k4 : w1.cell? ⟨W.heap.size + 1, 1, none⟩ = some (.string f.2) := by rw [Lib.cell_of_heap e1]; rfl
    have HE0 := hid e0
    clear o1 o2 e0 e1 hc c0
    go_wp2_with (at_mapUpdate; refine wpList_mapUpdate_own _ rfl _ _ _ 121 rfl 46 46 modKey Tryz.underlying121 rB mb T.length (datB T) rfl HW1.out.mp (by unfold maxLen; omega) (modV m) (modV f) (kL m) rfl rfl (keyOf_mod m HM.out.1 HM.out.2) (.held f) [] (rB_mod f) ?_)
    intro w2 hown hgrow
    have HOWN := hid hown
    have HGR := hid hgrow
    have n1 := HW1.out.mp.ne HE0.out
    have n2 := HW1.out.mp.ne HO1.out
    have j0 : w2.heap[W.heap.size]? = some (.cells #[.string m.1, .string m.2] 46 (0, 0)) := (hgrow.block _ (lt_of_blk HE0.out) (by simp [n1])).trans HE0.out
    have j1 : w2.heap[ob]? = some (.cells #[ov] 23 (0, 0)) := (hgrow.block _ (lt_of_blk HO1.out) (by simp [n2])).trans HO1.out
    have HOV := hid (HW1.out.mp.far hgrow HO2.out)
    obtain ⟨oa, oc, hov⟩ := own_slN HO2.out
    subst hov
    have i1 : w2.cell? ⟨W.heap.size, 0, none⟩ = some (.string m.1) := by rw [Lib.cell_of_heap j0]; rfl
    have i2 : w2.cell? ⟨W.heap.size, 1, none⟩ = some (.string m.2) := by rw [Lib.cell_of_heap j0]; rfl
    have i3 : w2.cell? ⟨ob, 0, none⟩ = some (.slice oa T.length oc) := by rw [Lib.cell_of_heap j1]; rfl
    have HJ1 := hid j1
    have HNE := hid (own_ne2 HOV.out j1 (by decide))
    have hsz := HW1.out.bl.size
    have hsz2 := hgrow.size
    clear hown hgrow j0 j1 k0 k1 k2 k3 k4 n1 n2
    go_wp2_with (at_builtin; refine wpList_append_own _ rfl _ _ 23 rfl w0.heap.size 46 i0 _ 2 32 Tryz.underlying23 hi0 hz0 hz1 hz2 rfl (by decide) _ _ _ rfl (HOV.out.alloc _) ⟨w2.heap.size, 0, none⟩ 1 1 [.string m.1, .string m.2] rfl rfl ?c1 ?c2 ?c3 ?c4 ?c5 ?_)
    case c1 => exact World.news_of_block (cs := #[.string m.1, .string m.2]) (t := 46) (fr := (0, 0)) (heap_alloc_new w2 _)
    case c2 =>
      intro u hu
      simp at hu
      rcases hu with rfl | rfl <;> rfl
    case c3 => unfold maxLen; omega
    case c4 => omega
    case c5 => simp; omega
    intro v' w3 hown3 hgrow3 _
    have HF := hid (HW1.out.more HM.out HO1.out HO2.out HOWN.out HGR.out hown3 hgrow3)
    have q2 : w3.heap[ob]? = some (.cells #[.slice oa T.length oc] 23 (0, 0)) := by
      rw [hgrow3.block ob (by have := lt_of_blk HJ1.out; simp; omega) (fun e => HNE.out e.symm), ((Below.refl w2.heap.size w2).alloc (Nat.le_refl _) _).block ob (lt_of_blk HJ1.out)]
      exact HJ1.out
    have i4 : w3.cell? ⟨ob, 0, none⟩ = some (.slice oa T.length oc) := by rw [Lib.cell_of_heap q2]; rfl
    have i5 : w3.frozen? ⟨ob, 0, none⟩ = false := by simp [World.frozen?, q2]
    obtain ⟨va, vc, hv⟩ := own_slN hown3
    subst hv
    clear hown3 hgrow3 q2 i1 i2 i3
    go_wp2_with fail
    go_end0
    exact ⟨rfl, by rw [come_no HCN.out]; exact HF.out⟩
end Ve
end Go.Proofs.YtoaobngpdaidoaaGreatDoor


namespace Go.Proofs.YtoaobngpdaidoaaGreatDoor
open Go.RowKit Go.Shelf
namespace Ve
attribute [local go_sem] Oper.semAt_some
def upT (f : Nat → ByteArray) (k : Nat) : List ByteArray := (List.range k).map f
theorem upT_succ (f : Nat → ByteArray) (k : Nat) : upT f (k + 1) = upT f k ++ [f k] := by simp [upT, List.range_succ]
theorem upT_length (f : Nat → ByteArray) (k : Nat) : (upT f k).length = k := by simp [upT]
theorem upT_take (X : List ByteArray) {k : Nat} (hk : k ≤ X.length) : upT (fun j => X[j]?.getD ByteArray.empty) k = X.take k := by
  apply List.ext_getElem
  · simp [upT, hk]
  · intro i h1 h2
    have : i < X.length := by simp [upT] at h1; omega
    simp [upT, this]
set_option maxRecDepth 100000 in
set_option maxHeartbeats 4000000 in
theorem values1_in (F : Fence) (n : Nat) (hf : F.fn 235) (hro : F.round = none) (hn : 1 ≤ n) (l Bs n₀ b off len cap : Nat) (X : List ByteArray) (hreach : len ≤ 1000000) (hb : b < n₀) (J Jx : List ByteArray → World → Prop)
    (hY : ∀ pre x W, J pre W → pre.length < len → YieldAt F (n - 1) Tryz.prog l #[.string x] W fun e W' =>
      (e = .returned (.bool true) ∧ J (pre ++ [x]) W' ∧ Below n₀ W W') ∨ (e = .returned (.bool false) ∧ Jx (pre ++ [x]) W'))
    (W : World) (hBs : W.cell? ⟨Bs, 0, none⟩ = some (.slice (some ⟨b, off, none⟩) len cap)) (hc : ∀ j, j < len → W.cell? ⟨b, off + j, none⟩ = some (.string (X[j]?.getD ByteArray.empty))) (h0 : J [] W) :
    CallsIn F n Tryz.prog 235 #[.func (.yield l) #[] #[], .pointer (some ⟨Bs, 0, none⟩)] W fun e W' => (∃ v, e = .returned v) ∧
      ((∃ ys, ys = upT (fun j => X[j]?.getD ByteArray.empty) len ∧ J ys W') ∨ (∃ pre, (∃ k, k ≤ len ∧ pre = upT (fun j => X[j]?.getD ByteArray.empty) k) ∧ Jx pre W')) := by
  refine callsIn_of_wp Tryz.func235 rfl hf ?_ hro
  simp only [Tryz.ntmps235, List.size_toArray, List.length_cons, List.length_nil, Nat.reduceAdd, Nat.reduceSub, Array.replicate_succ, Array.replicate_zero, List.push_toArray, List.append_toArray, List.nil_append, List.cons_append]
  gi_wp2
  gi_loopw [7] (fun i wr => ∃ k : Nat, k ≤ len ∧ i = .int .i64 k ∧ J (upT (fun j => X[j]?.getD ByteArray.empty) k) wr ∧ Below n₀ W wr)
    (fun i _ => len - (intOf i).toNat)
  case atStart => exact ⟨0, Nat.zero_le _, rfl, h0, Below.refl _ _⟩
  case round =>
    obtain ⟨k, hk, rfl, hJs, hnx⟩ := hrel
    have hcx : k < len → wr.cell? ⟨b, off + k, none⟩ = some (.string (X[k]?.getD ByteArray.empty)) := fun h => (hnx.cell (p := ⟨b, off + k, none⟩) hb).trans (hc k h)
    by_cases hlt : k < len
    · obtain ⟨fn, tmps, assign, body, hy, hR⟩ := hY _ (X[k]?.getD ByteArray.empty) wr hJs (by rw [upT_length]; exact hlt)
      have hcx' := hcx hlt
      gi_wp2
      refine hR.mono ?_
      rintro e W3 (⟨rfl, hJ3, hk3⟩ | ⟨rfl, hJx3⟩)
      · gi_wp2
        go_roundw
        case rel => exact ⟨k + 1, by omega, by simp, by rw [upT_succ]; exact hJ3, hnx.trans hk3⟩
        case measure => simp [intOf]; omega
      · gi_wp2
        refine bodyPost_ret (results_none rfl _ _ _) rfl ?_
        exact ⟨⟨_, rfl⟩, .inr ⟨_, ⟨k + 1, by omega, (upT_succ _ _).symm⟩, hJx3⟩⟩
    · obtain rfl : k = len := by omega
      gi_wp2
      go_end0
      exact ⟨⟨_, rfl⟩, .inl ⟨_, rfl, hJs⟩⟩
set_option maxRecDepth 100000 in
set_option maxHeartbeats 1000000 in
theorem values1_nil (F : Fence) (n : Nat) (hf : F.fn 235) (hro : F.round = none) (l Bs : Nat) (a : Option Addr) (c : Nat) (J : List ByteArray → World → Prop) (W : World) (hBs : W.cell? ⟨Bs, 0, none⟩ = some (.slice a 0 c)) (h0 : J [] W) :
    CallsIn F n Tryz.prog 235 #[.func (.yield l) #[] #[], .pointer (some ⟨Bs, 0, none⟩)] W fun e W' => (∃ v, e = .returned v) ∧ J [] W' := by
  refine callsIn_of_wp Tryz.func235 rfl hf ?_ hro
  simp only [Tryz.ntmps235, List.size_toArray, List.length_cons, List.length_nil, Nat.reduceAdd, Nat.reduceSub, Array.replicate_succ, Array.replicate_zero, List.push_toArray, List.append_toArray, List.nil_append, List.cons_append]
  gi_wp2
  gi_loopw [7] (fun i wr => i = .int .i64 0 ∧ J [] wr) (fun _ _ => 0)
  case atStart => exact ⟨rfl, h0⟩
  case round =>
    obtain ⟨rfl, hJs⟩ := hrel
    gi_wp2
    go_end0
    exact ⟨⟨_, rfl⟩, hJs⟩
set_option maxHeartbeats 1000000 in
theorem values_in (F : Fence) (n : Nat) (hf : F.fn 209) (hro : F.round = none) (a : Option Addr) (len cap : Nat) (w : World) :
    CallsIn F n Tryz.prog 209 #[.slice a len cap] w fun e w' => e = .returned (.func (.func 235) #[] #[.pointer (some ⟨w.heap.size, 0, none⟩)]) ∧ w' = w.alloc (.cells #[.slice a len cap] 54) := by
  refine callsIn_of_wp Tryz.func209 rfl hf ?_ hro
  simp only [Tryz.ntmps209, List.size_toArray, List.length_cons, List.length_nil, Nat.reduceAdd, Nat.reduceSub, Array.replicate_succ, Array.replicate_zero, List.push_toArray, List.append_toArray, List.nil_append, List.cons_append]
  gi_wp2
  go_ret
  exact ⟨rfl, rfl⟩
theorem values_stops (F : Fence) (n : Nat) (hf : F.fn 235) (hro : F.round = none) (hn : 1 ≤ n) (Bs n₀ : Nat) (sv : Value) (X : List ByteArray) (hreach : X.length ≤ 1000000) (w : World) (hBs : Bs < w.heap.size) (hn₀ : n₀ ≤ w.heap.size)
    (hc : w.cell? ⟨Bs, 0, none⟩ = some sv) (w0 : World) (hw0 : w0.heap.size = n₀) (hI : TxAt w0 sv X) (hbl : Below n₀ w0 w) :
    SeqStopsK F n Tryz.prog 235 #[.pointer (some ⟨Bs, 0, none⟩)] (fun x : ByteArray => #[Value.string x]) (Below n₀) (fun ys => ys = X) (fun pre => pre <+: X) X.length w := fun l J Jx W hW _ _ hY h0 => by
  have hc' := (hW.cell (p := ⟨Bs, 0, none⟩) hBs).trans hc
  obtain ⟨a, cap, rfl, _, hcs⟩ := hI
  cases X with
  | nil => exact (values1_nil F n hf hro l Bs a cap J W hc' h0).mono fun e W' ⟨he, hj⟩ => ⟨he, .inl ⟨_, rfl, hj⟩⟩
  | cons x r =>
    obtain ⟨b, o, rfl, hcc⟩ := hcs (by simp)
    have hb : b < n₀ := by
      have := hcc 0 (by simp)
      rw [← hw0]
      exact lt_of_cell this
    refine (values1_in F n hf hro hn l Bs n₀ b o (x :: r).length cap (x :: r) hreach hb J Jx hY W hc' (fun j hj => ?_) h0).mono ?_
    · rw [(hbl.trans (hW.mono hn₀)).cell (p := ⟨b, o + j, none⟩) hb, hcc j hj, List.getElem?_eq_getElem hj]; rfl
    · rintro e W' ⟨he, ⟨ys, rfl, hj⟩ | ⟨pre, ⟨k, hk, rfl⟩, hj⟩⟩
      · exact ⟨he, .inl ⟨_, by rw [upT_take _ (Nat.le_refl _), List.take_length], hj⟩⟩
      · exact ⟨he, .inr ⟨_, by rw [upT_take _ hk]; exact List.take_prefix _ _, hj⟩⟩
set_option maxRecDepth 100000 in
set_option maxHeartbeats 4000000 in
theorem appSeq_in (F : Fence) (n : Nat) (hfa : F.fn 253) (hf : F.fn 235) (hro : F.round = none) (hn : 3 ≤ n) (X : List ByteArray) (hX : X.length ≤ 1000000) (sv : Value) (w : World) (Bs : Nat) (hBs : Bs < w.heap.size)
    (hc : w.cell? ⟨Bs, 0, none⟩ = some sv) (hI : TxAt w sv X) :
    CallsIn F n Tryz.prog 253 #[.slice none 0 0, .func (.func 235) #[] #[.pointer (some ⟨Bs, 0, none⟩)]] w fun e W' => ∃ v, e = .returned v ∧ W'.ownsRow w.heap.size 9 1 v X.length (X.map Value.string) ∧ (v = .slice none 0 0 ↔ X = []) ∧ Below w.heap.size w W' := by
  have h1 : 1 ≤ n := by omega
  obtain ⟨i0, hi, hz0, hz1, hz2⟩ := info_parts infoStr
  refine callsIn_of_wp_marks Tryz.func253 rfl hfa ?_ hro
  simp only [Tryz.ntmps253, List.size_toArray, List.length_cons, List.length_nil, Nat.reduceAdd, Nat.reduceSub, Array.replicate_succ, Array.replicate_zero, List.push_toArray, List.append_toArray, List.nil_append, List.cons_append]
  gi_wp2
  have bO := Boxed.new w 54 (.slice none 0 0)
  have hB0 : Below w.heap.size w (w.alloc (.cells #[.slice none 0 0] 54)) := (Below.refl _ w).alloc (Nat.le_refl _) _
  refine wpIn_rangeFunc_ownG hro h1 (gf := 235) (lb := #[.pointer (some ⟨Bs, 0, none⟩)]) rfl hf (enters_of Tryz.func235 (by kernel_rfl) rfl)
    (values_stops F (n - 1) hf hro (by omega) Bs w.heap.size sv X hX _ (by simp; omega) (by simp) ((hB0.cell (p := ⟨Bs, 0, none⟩) hBs).trans hc) w rfl hI hB0) belowK_t (belowK_b (by simp)) (Below.refl _ _) (fun _ => rfl)
    (fun pre W => (∃ v, Boxed W w.heap.size 54 v ∧ W.ownsRow w.heap.size 9 1 v pre.length (pre.map Value.string) ∧ (v = .slice none 0 0 ↔ pre = [])) ∧ Below w.heap.size w W)
    (fun _ _ _ => False)
    (OwnFrom.and (Own.from (holdsRow_own w.heap.size w.heap.size 54 9 1 (fun pre => pre.length) (fun pre => pre.map Value.string) (fun pre v => v = .slice none 0 0 ↔ pre = [])) _) (ownFrom_below (Nat.le_refl _) (by simp)))
    (fun _ _ _ _ _ hs _ _ => hs)
    ⟨⟨_, bO, World.ownsRow_nil _ _ _ _, by simp⟩, hB0⟩
    (fun x => { tmps := #[.slice none 0 0, .func (.func 235) #[] #[.pointer (some ⟨Bs, 0, none⟩)], .pointer (some ⟨w.heap.size, 0, none⟩), undef, .slice none 0 0, .string x, .func (.func 235) #[] #[.pointer (some ⟨Bs, 0, none⟩)], .string x, undef, undef, undef, undef, undef], defers := [] }) ?assign ?body ?done ?stop
  case assign =>
    intro l x W K hK
    gi_wp2
    exact hK
  case body =>
    rintro l pre x W ⟨⟨v, hv, hrow, hnil⟩, hB⟩ hlt
    have hc := hv.cell
    gi_wp2_with (gi_at_builtin; refine wpListIn_append_own _ rfl _ _ 54 rfl w.heap.size 9 i0 (.string ByteArray.empty) 1 16 Tryz.underlying54 hi hz0 hz1 hz2 rfl (by decide) _ _ _ rfl (hrow.alloc _) ⟨W.heap.size, 0, none⟩ 1 1 [.string x] rfl rfl (cell_one_new _ _ _) (by simp [Value.oneCell']) (by unfold maxLen; omega) (by omega) (by have := hB.size; simp; omega) ?_; intro v' w1 hown' hgrow _; obtain ⟨g', cap', rfl⟩ := ownsRow_succ hown'; obtain ⟨hv1, hv2, hr2, hk2, hb2⟩ := hv.appended (by decide) hrow hB.size (Nat.le_refl _) hown' hgrow; have hc1 := hv1.cell; have hf1 := hv1.frozen)
    exact ⟨hk2.from _, hb2, ⟨_, hv2, by simpa using hr2, by simp⟩, hB.trans hb2⟩
  case done =>
    rintro D ys W hD rfl ⟨⟨v, hv, hrow, hnil⟩, hB⟩ hK
    have hc := hv.cell
    gi_wp2
    refine ⟨by simp, .inl ⟨_, _, rfl, run_takeDeferred hK, ?_⟩⟩
    exact ⟨_, results_tmp rfl _ _ _, v, rfl, ownsRow_putObj hrow _ hK rfl, hnil, hB.trans (belowK_b (w := w) (Nat.le_refl _) W D _ _ (by simp at hD; omega) hK rfl rfl)⟩
  case stop =>
    rintro D c pre W _ _ h _
    exact h.elim
set_option maxHeartbeats 1000000 in
theorem collect_in (F : Fence) (n : Nat) (hfc : F.fn 233) (hfa : F.fn 253) (hf : F.fn 235) (hro : F.round = none) (hn : 4 ≤ n) (X : List ByteArray) (hX : X.length ≤ 1000000) (sv : Value) (w : World) (Bs : Nat) (hBs : Bs < w.heap.size)
    (hc : w.cell? ⟨Bs, 0, none⟩ = some sv) (hI : TxAt w sv X) :
    CallsIn F n Tryz.prog 233 #[.func (.func 235) #[] #[.pointer (some ⟨Bs, 0, none⟩)]] w fun e W' => ∃ v, e = .returned v ∧ W'.ownsRow w.heap.size 9 1 v X.length (X.map Value.string) ∧ (v = .slice none 0 0 ↔ X = []) ∧ Below w.heap.size w W' := by
  have h1 : 1 ≤ n := by omega
  refine callsIn_of_wp Tryz.func233 rfl hfc ?_ hro
  simp only [Tryz.ntmps233, List.size_toArray, List.length_cons, List.length_nil, Nat.reduceAdd, Nat.reduceSub, Array.replicate_succ, Array.replicate_zero, List.push_toArray, List.append_toArray, List.nil_append, List.cons_append]
  gi_wp2_with (gi_at_call 253; refine (appSeq_in F (n - 1) hfa hf hro (by omega) X hX sv _ Bs hBs hc hI).mono ?_; rintro e w' ⟨v, rfl, hrow, hnil, hb⟩)
  go_ret
  exact ⟨v, rfl, hrow, hnil, hb⟩
theorem collect_any (X : List ByteArray) (hX : X.length ≤ 1000000) (sv : Value) (w : World) (Bs : Nat) (hBs : Bs < w.heap.size) (hc : w.cell? ⟨Bs, 0, none⟩ = some sv) (hI : TxAt w sv X) :
    Calls Tryz.prog 233 #[.func (.func 235) #[] #[.pointer (some ⟨Bs, 0, none⟩)]] w fun e W' => ∃ v, e = .returned v ∧ W'.ownsRow w.heap.size 9 1 v X.length (X.map Value.string) ∧ (v = .slice none 0 0 ↔ X = []) ∧ Below w.heap.size w W' :=
  (callsIn_wide (n := 4)).1 (collect_in Fence.wide 4 trivial trivial trivial rfl (by omega) X hX sv w Bs hBs hc hI)
end Ve
end Go.Proofs.YtoaobngpdaidoaaGreatDoor


namespace Go.Proofs
open Go.Shelf
def Tryz.lays190_ren : Go.Shelf.Ren := ⟨fun | 190 => 234 | 125 => 119 | 258 => 254 | 128 => 157 | 129 => 158 | 302 => 261 | 303 => 262 | 304 => 263 | 305 => 264 | 306 => 265 | 307 => 266 | 308 => 267 | 309 => 268 | 310 => 269 | 333 => 277 | 329 => 189 | 330 => 190 | 334 => 278 | 335 => 279 | 336 => 280 | 344 => 285 | n => n, fun | 31 => 54 | 9 => 9 | 3 => 3 | 46 => 157 | 0 => 0 | 51 => 202 | 53 => 204 | 4 => 4 | 183 => 195 | 182 => 194 | 131 => 199 | 5 => 5 | 218 => 212 | 222 => 216 | 228 => 238 | 229 => 58 | n => n, fun | n => n⟩
theorem Tryz.lays190 : Go.Proofs.Lays.n190 Tryz.prog Tryz.lays190_ren := {
  mixed := by kernel_rfl
  f125 := Tryz.func119.trans (congrArg some (by kernel_rfl))
  f128 := Tryz.func157.trans (congrArg some (by kernel_rfl))
  f129 := Tryz.func158.trans (congrArg some (by kernel_rfl))
  f190 := Tryz.func234.trans (congrArg some (by kernel_rfl))
  f258 := Tryz.func254.trans (congrArg some (by kernel_rfl))
  f302 := Tryz.func261.trans (congrArg some (by kernel_rfl))
  f303 := Tryz.func262.trans (congrArg some (by kernel_rfl))
  f304 := Tryz.func263.trans (congrArg some (by kernel_rfl))
  f305 := Tryz.func264.trans (congrArg some (by kernel_rfl))
  f306 := Tryz.func265.trans (congrArg some (by kernel_rfl))
  f307 := Tryz.func266.trans (congrArg some (by kernel_rfl))
  f308 := Tryz.func267.trans (congrArg some (by kernel_rfl))
  f309 := Tryz.func268.trans (congrArg some (by kernel_rfl))
  f310 := Tryz.func269.trans (congrArg some (by kernel_rfl))
  f329 := Tryz.func189.trans (congrArg some (by kernel_rfl))
  f330 := Tryz.func190.trans (congrArg some (by kernel_rfl))
  f333 := Tryz.func277.trans (congrArg some (by kernel_rfl))
  f334 := Tryz.func278.trans (congrArg some (by kernel_rfl))
  f335 := Tryz.func279.trans (congrArg some (by kernel_rfl))
  f336 := Tryz.func280.trans (congrArg some (by kernel_rfl))
  f344 := Tryz.func285.trans (congrArg some (by kernel_rfl))
  t0 := Tryz.underlying0
  a0 := Tryz.isAgg0
  z0 := Tryz.sizeOf0
  v0 := Tryz.zeroValue0
  t3 := Tryz.underlying3
  a3 := Tryz.isAgg3
  z3 := Tryz.sizeOf3
  v3 := Tryz.zeroValue3
  t4 := Tryz.underlying4
  a4 := Tryz.isAgg4
  z4 := Tryz.sizeOf4
  v4 := Tryz.zeroValue4
  t5 := Tryz.underlying5
  a5 := Tryz.isAgg5
  z5 := Tryz.sizeOf5
  v5 := Tryz.zeroValue5
  t9 := Tryz.underlying9
  a9 := Tryz.isAgg9
  z9 := Tryz.sizeOf9
  v9 := Tryz.zeroValue9
  t31 := Tryz.underlying54
  a31 := Tryz.isAgg54
  z31 := Tryz.sizeOf54
  v31 := Tryz.zeroValue54
  t46 := Tryz.underlying157
  a46 := Tryz.isAgg157
  z46 := Tryz.sizeOf157
  v46 := Tryz.zeroValue157
  t51 := Tryz.underlying202
  a51 := Tryz.isAgg202
  z51 := Tryz.sizeOf202
  v51 := Tryz.zeroValue202
  t53 := Tryz.underlying204
  a53 := Tryz.isAgg204
  z53 := Tryz.sizeOf204
  v53 := Tryz.zeroValue204
  t131 := Tryz.underlying199
  a131 := Tryz.isAgg199
  z131 := Tryz.sizeOf199
  v131 := Tryz.zeroValue199
  t182 := Tryz.underlying194
  a182 := Tryz.isAgg194
  z182 := Tryz.sizeOf194
  v182 := Tryz.zeroValue194
  t183 := Tryz.underlying195
  a183 := Tryz.isAgg195
  z183 := Tryz.sizeOf195
  v183 := Tryz.zeroValue195
  t218 := Tryz.underlying212
  a218 := Tryz.isAgg212
  z218 := Tryz.sizeOf212
  v218 := Tryz.zeroValue212
  t222 := Tryz.underlying216
  a222 := Tryz.isAgg216
  z222 := Tryz.sizeOf216
  v222 := Tryz.zeroValue216
  t228 := Tryz.underlying238
  a228 := Tryz.isAgg238
  z228 := Tryz.sizeOf238
  v228 := Tryz.zeroValue238
  t229 := Tryz.underlying58
  a229 := Tryz.isAgg58
  z229 := Tryz.sizeOf58
  v229 := Tryz.zeroValue58 }
open Go.Sort Go.RowKit in
theorem Tryz.slices_Sort_string (blk off cap : Nat) (ss : List (List UInt8)) (w : World) (hH : Holds encStr w blk off ss.toArray) (hblk : blk < w.heap.size) (hsz : ss.length < 4611686018427387904) :
    Calls Tryz.prog 234 #[.slice (some ⟨blk, off, none⟩) ss.length cap] w fun e w' =>
      e = .returned (.tuple #[]) ∧ ∃ n os, w' = grow (putRow encStr (Sort.ahead w n) blk off (ss.mergeSort fun x y => decide (x ≤ y)).toArray) os := Any.slices_Sort_string Tryz.lays190 blk off cap ss w hH hblk hsz
def Tryz.lays193_ren : Go.Shelf.Ren := ⟨fun | 193 => 176 | n => n, fun | 31 => 54 | 9 => 9 | 4 => 4 | 3 => 3 | 0 => 0 | n => n, fun | n => n⟩
theorem Tryz.lays193 : Go.Proofs.Lays.n193 Tryz.prog Tryz.lays193_ren := {
  mixed := by kernel_rfl
  f193 := Tryz.func176.trans (congrArg some (by kernel_rfl))
  t0 := Tryz.underlying0
  a0 := Tryz.isAgg0
  z0 := Tryz.sizeOf0
  v0 := Tryz.zeroValue0
  t3 := Tryz.underlying3
  a3 := Tryz.isAgg3
  z3 := Tryz.sizeOf3
  v3 := Tryz.zeroValue3
  t4 := Tryz.underlying4
  a4 := Tryz.isAgg4
  z4 := Tryz.sizeOf4
  v4 := Tryz.zeroValue4
  t9 := Tryz.underlying9
  a9 := Tryz.isAgg9
  z9 := Tryz.sizeOf9
  v9 := Tryz.zeroValue9
  t31 := Tryz.underlying54
  a31 := Tryz.isAgg54
  z31 := Tryz.sizeOf54
  v31 := Tryz.zeroValue54 }
open Go.RowKit Go.Lib in
theorem Tryz.slices_Equal_string (b1 o1 n c b2 o2 m d : Nat) (xs ys : List ByteArray) (w : World) (hx : n ≤ xs.length) (hy : m ≤ ys.length) (hbig : n ≤ 9223372036854775807) (hbig2 : m ≤ 9223372036854775807) (hc1 : ∀ j, j < xs.length → w.cell? ⟨b1, o1 + j, none⟩ = some (.string (xs.getD j ByteArray.empty))) (hc2 : ∀ j, j < ys.length → w.cell? ⟨b2, o2 + j, none⟩ = some (.string (ys.getD j ByteArray.empty))) :
    Calls Tryz.prog 176 #[.slice (some ⟨b1, o1, none⟩) n c, .slice (some ⟨b2, o2, none⟩) m d] w fun e w' => e = .returned (.bool (decide (xs.take n = ys.take m))) ∧ ∃ q, w' = w.drewN q := Any.slices_Equal_string Tryz.lays193 b1 o1 n c b2 o2 m d xs ys w hx hy hbig hbig2 hc1 hc2
open Go.RowKit Go.Lib in
theorem Tryz.slices_Equal_string_empty (a1 a2 : Option Addr) (c m d : Nat) (w : World) (hbig2 : m ≤ 9223372036854775807) :
    Calls Tryz.prog 176 #[.slice a1 0 c, .slice a2 m d] w fun e w' => e = .returned (.bool (decide (m = 0))) ∧ w' = w := Any.slices_Equal_string_empty Tryz.lays193 a1 a2 c m d w hbig2
def Tryz.lays194_ren : Go.Shelf.Ren := ⟨fun | 194 => 207 | n => n, fun | 31 => 54 | 9 => 9 | 3 => 3 | 4 => 4 | 0 => 0 | n => n, fun | n => n⟩
theorem Tryz.lays194 : Go.Proofs.Lays.n194 Tryz.prog Tryz.lays194_ren := {
  mixed := by kernel_rfl
  f194 := Tryz.func207.trans (congrArg some (by kernel_rfl))
  t0 := Tryz.underlying0
  a0 := Tryz.isAgg0
  z0 := Tryz.sizeOf0
  v0 := Tryz.zeroValue0
  t3 := Tryz.underlying3
  a3 := Tryz.isAgg3
  z3 := Tryz.sizeOf3
  v3 := Tryz.zeroValue3
  t4 := Tryz.underlying4
  a4 := Tryz.isAgg4
  z4 := Tryz.sizeOf4
  v4 := Tryz.zeroValue4
  t9 := Tryz.underlying9
  a9 := Tryz.isAgg9
  z9 := Tryz.sizeOf9
  v9 := Tryz.zeroValue9
  t31 := Tryz.underlying54
  a31 := Tryz.isAgg54
  z31 := Tryz.sizeOf54
  v31 := Tryz.zeroValue54 }
open Go.RowKit Go.Lib Go.Sort in
theorem Tryz.slices_Compact_string (blk off cap : Nat) (zs : List (List UInt8)) (w : World) (hH : Holds encStr w blk off zs.toArray) (hsz : zs.length ≤ 9223372036854775807) (hcap : zs.length ≤ cap) :
    Calls Tryz.prog 207 #[.slice (some ⟨blk, off, none⟩) zs.length cap] w fun e w' => e = .returned (.slice (some ⟨blk, off, none⟩) (Lib.compact zs).length cap) ∧ ∃ q, w' = putRow encStr (Sort.ahead w q) blk off (Lib.compact zs ++ List.replicate (zs.length - (Lib.compact zs).length) []).toArray := Any.slices_Compact_string Tryz.lays194 blk off cap zs w hH hsz hcap
open Go.RowKit Go.Lib Go.Sort in
theorem Tryz.slices_Compact_string_empty (a : Option Addr) (cap : Nat) (w : World) :
    Calls Tryz.prog 207 #[.slice a 0 cap] w fun e w' => e = .returned (.slice a 0 cap) ∧ w' = w := Any.slices_Compact_string_empty Tryz.lays194 a cap w
open Go.RowKit Go.Sort in
theorem Tryz.slices_Sort_string_none (p : Option Addr) (cap : Nat) (w : World) :
    Calls Tryz.prog 234 #[.slice p 0 cap] w fun e w' => e = .returned (.tuple #[]) ∧ w' = w := Any.slices_Sort_string_none Tryz.lays190 p cap w
open Go.RowKit Go.Lib in
theorem Tryz.slices_Equal_string_lens (a1 a2 : Option Addr) (n c m d : Nat) (w : World) (hnm : n ≠ m) :
    Calls Tryz.prog 176 #[.slice a1 n c, .slice a2 m d] w fun e w' => e = .returned (.bool false) ∧ w' = w := Any.slices_Equal_string_lens Tryz.lays193 a1 a2 n c m d w hnm
end Go.Proofs


namespace Go.Proofs.YtoaobngpdaidoaaGreatDoor
open Go.RowKit Go.Shelf Go.Sort
namespace Ve
theorem map_bl (X : List ByteArray) : (bl X).map encStr = X.map Value.string := by simp [bl]
def ba' (t : List UInt8) : ByteArray := ⟨t.toArray⟩
def srtB (Z : List (List UInt8)) : List (List UInt8) := Z.mergeSort fun x y => decide (x ≤ y)
def risB (Z : List (List UInt8)) : List (List UInt8) := Lib.compact (srtB Z)
theorem srtB_len (Z : List (List UInt8)) : (srtB Z).length = Z.length := by simp [srtB]
theorem values_any (a : Option Addr) (len cap : Nat) (w : World) :
    Calls Tryz.prog 209 #[.slice a len cap] w fun e w' => e = .returned (.func (.func 235) #[] #[.pointer (some ⟨w.heap.size, 0, none⟩)]) ∧ w' = w.alloc (.cells #[.slice a len cap] 54) :=
  (callsIn_wide (n := 4)).1 (values_in Fence.wide 4 trivial rfl a len cap w)
set_option maxRecDepth 100000 in
set_option maxHeartbeats 2000000 in
theorem sorted_any (X : List ByteArray) (hX : X.length ≤ 1000000) (sv : Value) (w : World) (Bs : Nat) (hBs : Bs < w.heap.size) (hc : w.cell? ⟨Bs, 0, none⟩ = some sv) (hI : TxAt w sv X) :
    Calls Tryz.prog 208 #[.func (.func 235) #[] #[.pointer (some ⟨Bs, 0, none⟩)]] w fun e W' => ∃ v, e = .returned v ∧ W'.ownsRow w.heap.size 9 1 v X.length ((srtB (bl X)).map encStr) ∧ Below w.heap.size w W' := by
  have HCL := hid (collect_any X hX sv w Bs hBs hc hI)
  clear hc hI
  go_enter Tryz.func208, Tryz.ntmps208
  go_wp2_with fail
  refine HCL.out.mono ?_
  rintro e W ⟨v, rfl, hrow, hnil, hb⟩
  have HB := hid hb
  have HROW := hid hrow
  rcases hrow.2 with ⟨rfl, hz⟩ | ⟨gb, cap, cur, rfl, hbase, hgb, r1, r2, r3, r4⟩
  · have hss : X = [] := List.eq_nil_of_length_eq_zero hz
    subst hss
    have HS := hid (Tryz.slices_Sort_string_none none 0 W)
    clear hrow hnil hb hz
    go_wp2_with fail
    refine HS.out.mono ?_
    rintro e w1 ⟨rfl, rfl⟩
    go_wp2_with fail
    go_ret
    exact ⟨_, rfl, by simpa [srtB, bl] using World.ownsRow_nil w1 w.heap.size 9 1, HB.out⟩
  · have hlen : (bl X).length = X.length := bl_len X
    have hH : Holds encStr W gb 0 (bl X).toArray := holds_of_block hgb (by rw [map_bl, hlen]; simpa using r4)
    have hgl : gb < W.heap.size := (Array.getElem?_eq_some_iff.1 hgb).1
    have HS := hid (Tryz.slices_Sort_string gb 0 cap (bl X) W hH hgl (by rw [hlen]; omega))
    rw [hlen] at HS
    have HO := hid (fun n os => ownsRow_sorted (n := n) (os := os) (ss := bl X) (ts := srtB (bl X)) (srtB_len _) hbase hgb (by rw [hlen]; exact r1) r2 r3)
    have HBS := hid hbase
    clear hrow hnil hb hH r1 r2 r3 r4 hgb
    go_wp2_with fail
    refine HS.out.mono ?_
    rintro e w1 ⟨rfl, nn, os, rfl⟩
    have HBB := hid (HB.out.grown (grownBy_sorted (w := W) (g := gb) (n := nn) (os := os) (srtB (bl X)).toArray) HB.out.size (fun j hj => by cases hj; exact HBS.out))
    have HOO := hid (HO.out nn os)
    rw [hlen] at HOO
    have HWW := hid (show ∃ W2, grow (putRow encStr (Sort.ahead W nn) gb 0 ((bl X).mergeSort fun x y => decide (x ≤ y)).toArray) os = W2 from ⟨_, rfl⟩)
    obtain ⟨W2, hW2⟩ := HWW.out
    have HOO2 := hid (show W2.ownsRow w.heap.size 9 1 (.slice (some ⟨gb, 0, none⟩) X.length cap) X.length ((srtB (bl X)).map encStr) by rw [← hW2]; exact HOO.out)
    have HBB2 := hid (show Below w.heap.size w W2 by rw [← hW2]; exact HBB.out)
    rw [hW2]
    clear HOO HBB HO HWW hW2
    go_wp2_with fail
    go_ret
    exact ⟨_, rfl, HOO2.out, HBB2.out⟩
theorem owns_compact {w : World} {base g cap n : Nat} {e : TypeId} {cur : Array Value} {C R : List (List UInt8)} (hbase : base ≤ g) (hb : w.heap[g]? = some (.cells cur e (0, 0)))
    (h1 : C.length + R.length ≤ cap) (h2 : cap ≤ maxLen) (h3 : cur.size = cap * 1) :
    (putRow encStr (Sort.ahead w n) g 0 (C ++ R).toArray).ownsRow base e 1 (.slice (some ⟨g, 0, none⟩) C.length cap) C.length (C.map encStr) := by
  have hs := heap_sorted (n := n) (os := #[]) (C ++ R).toArray hb
  rw [grow_empty] at hs
  refine ⟨by simp, .inr ⟨g, cap, _, rfl, hbase, hs, by omega, h2, by simp [putCells, h3], ?_⟩⟩
  have ht := take_putCells cur (C ++ R) (by rw [List.length_append]; omega)
  have := congrArg (List.take C.length) ht
  rw [List.take_take, List.length_append, Nat.min_eq_left (by omega), List.map_append, List.take_append_of_le_length (by simp), List.take_of_length_le (l := List.map encStr C) (by simp)] at this
  rw [Nat.mul_one]; exact this
theorem grownBy_compact {w : World} {g n : Nat} (d : Array (List UInt8)) : w.grownBy (putRow encStr (Sort.ahead w n) g 0 d) (some g) := by
  have := grownBy_sorted (w := w) (g := g) (n := n) (os := #[]) d
  rwa [grow_empty] at this
theorem compact_le (zs : List (List UInt8)) : (Lib.compact zs).length ≤ zs.length := by
  unfold Lib.compact Lib.compactUpTo
  rw [List.length_map]
  exact Nat.le_trans (List.length_filter_le _ _) (by simp)
def tx (Z : List (List UInt8)) : List ByteArray := Z.map ba'
theorem tx_str (Z : List (List UInt8)) : (tx Z).map Value.string = Z.map encStr := by simp [tx, ba']
theorem bl_tx (Z : List (List UInt8)) : bl (tx Z) = Z := by
  unfold bl tx
  rw [List.map_map]
  exact (List.map_congr_left fun t _ => show (ba' t).data.toList = t by simp [ba']).trans (List.map_id _)
theorem tx_len (Z : List (List UInt8)) : (tx Z).length = Z.length := by simp [tx]
theorem own_txB {w : World} {B : Nat} {e : TypeId} {v : Value} {Z : List (List UInt8)} (h : w.ownsRow B e 1 v Z.length (Z.map encStr)) : w.ownsRow B e 1 v (tx Z).length ((tx Z).map Value.string) := by
  rw [tx_str, tx_len]; exact h
set_option maxRecDepth 100000 in
set_option maxHeartbeats 2000000 in
theorem rising_any (X : List ByteArray) (hX : X.length ≤ 1000000) (sv : Value) (w : World) (hI : TxAt w sv X) :
    Calls Tryz.prog 177 #[sv] w fun e W' => ∃ v, e = .returned v ∧ W'.ownsRow w.heap.size 9 1 v (tx (risB (bl X))).length ((tx (risB (bl X))).map Value.string) ∧ Below w.heap.size w W' := by
  obtain ⟨a, c, rfl, hac, _⟩ := id hI
  have HV := hid (values_any a X.length c w)
  have HB1 := hid ((Below.refl w.heap.size w).alloc (Nat.le_refl _) (.cells #[.slice a X.length c] 54))
  have HSO := hid (sorted_any X hX (.slice a X.length c) (w.alloc (.cells #[.slice a X.length c] 54)) w.heap.size (by simp) (by rw [Lib.cell_of_heap (heap_alloc_new w _)]; rfl) (hI.below HB1.out))
  clear hI hac
  go_enter Tryz.func177, Tryz.ntmps177
  go_wp2_with fail
  refine HV.out.mono ?_
  rintro e w1 ⟨rfl, rfl⟩
  go_wp2_with fail
  refine HSO.out.mono ?_
  rintro e W ⟨v, rfl, hrow, hb⟩
  have HB := hid (HB1.out.trans (hb.mono (by simp)))
  rcases hrow.2 with ⟨rfl, hz⟩ | ⟨gb, cap, cur, rfl, hbase, hgb, r1, r2, r3, r4⟩
  · have hss : X = [] := List.eq_nil_of_length_eq_zero hz
    subst hss
    have HS := hid (Tryz.slices_Compact_string_empty none 0 W)
    clear hrow hb hz
    go_wp2_with fail
    refine HS.out.mono ?_
    rintro e w1 ⟨rfl, rfl⟩
    go_wp2_with fail
    go_ret
    exact ⟨_, rfl, by simpa [risB, srtB, bl, tx, Lib.compact, Lib.compactUpTo] using World.ownsRow_nil w1 w.heap.size 9 1, HB.out⟩
  · have hlen : (srtB (bl X)).length = X.length := by rw [srtB_len, bl_len]
    have hH : Holds encStr W gb 0 (srtB (bl X)).toArray := holds_of_block hgb (by rw [hlen]; simpa using r4)
    have HS := hid (Tryz.slices_Compact_string gb 0 cap (srtB (bl X)) W hH (by rw [hlen]; omega) (by rw [hlen]; exact r1))
    rw [hlen] at HS
    have hcl := compact_le (srtB (bl X))
    have hgw : w.heap.size ≤ gb := by simp at hbase; omega
    have HO := hid (fun n => owns_compact (n := n) (base := w.heap.size) (C := risB (bl X)) (R := List.replicate (X.length - (Lib.compact (srtB (bl X))).length) []) hgw hgb (by rw [List.length_replicate]; unfold risB; omega) r2 r3)
    have HBS := hid hgw
    clear hrow hb hH r1 r2 r3 r4 hgb hbase
    go_wp2_with fail
    refine HS.out.mono ?_
    rintro e w1 ⟨rfl, nn, hw1⟩
    have HBB := hid (HB.out.grown (grownBy_compact (w := W) (g := gb) (n := nn) (Lib.compact (srtB (bl X)) ++ List.replicate (X.length - (Lib.compact (srtB (bl X))).length) []).toArray) HB.out.size (fun j hj => by cases hj; exact HBS.out))
    have HOO := hid (HO.out nn)
    rw [← hw1] at HBB
    have HOO2 := hid (show w1.ownsRow w.heap.size 9 1 (.slice (some ⟨gb, 0, none⟩) (risB (bl X)).length cap) (risB (bl X)).length ((risB (bl X)).map encStr) by rw [hw1]; exact HOO.out)
    clear HOO HO hw1
    go_wp2_with fail
    go_ret
    exact ⟨_, rfl, own_txB HOO2.out, HBB.out⟩
end Ve
end Go.Proofs.YtoaobngpdaidoaaGreatDoor
