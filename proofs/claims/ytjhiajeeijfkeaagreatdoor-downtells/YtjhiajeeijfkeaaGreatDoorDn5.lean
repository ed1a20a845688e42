/-
  Older ones, plain: caps, who is bad, what the roots become.
-/
import Derived.Test.YtjhiajeeijfkeaaGreatDoorDn2
import Derived.Test.YtjhiajeeijfkeaaGreatDoorDn4
import Derived.Test.YtjhiajeeijfkeaaGreatDoorDn1
import Derived.Deep.RegionHeld
import Derived.Deep.RegionLaw
import Derived.Deep.AppendLies
import Derived.RangeFuncBox
import Derived.RangeFuncLeaves
import Derived.RangeFuncCalls
import Derived.Shelf.Abstract
import Derived.OwnWalkIn
import Derived.TacticsInMore
import Derived.LoopNIn
import Derived.LoopIn
import Derived.Maps.AppendAt
import Derived.Sort.QuietIn
import Derived.Lib.SliceRun
import Derived.Shelf.SlSortCmp.WholeK
import Derived.Calls
namespace Go.Proofs.YtjhiajeeijfkeaaGreatDoor
open Go.RowKit
namespace Ve

def noneL : List UInt8 := [110, 111, 110, 101]
/-- Is a module above its path's cap? -/
def capB (caps : List Bm) (m : Bm) : Bool := match atP caps m.1 with
  | none => false
  | some c => decide (vb c = noneL) || lessB (vb c) (vb m)
/-- What is wrong with a cap behind another. -/
def capW (prev : Option Bm) (m : Bm) : Nat :=
  if pathErr m.1.data.toList ≠ 0 then pathErr m.1.data.toList
  else if vb m ≠ noneL ∧ verErr (vb m) ≠ 0 then verErr (vb m)
  else match prev with
    | none => 0
    | some p => if noLess p.1 m.1 then 8 else 0
def capE (caps : List Bm) (i : Nat) : Nat := match caps[i]? with
  | none => 0
  | some m => capW (prevOf caps i) m
def chkP (caps : List Bm) : Nat × Option Nat := (codeE (capE caps) caps.length, fstE (capE caps) caps.length)
theorem capW_zero {prev : Option Bm} {m : Bm} (h : capW prev m = 0) : pathErr m.1.data.toList = 0 ∧ (vb m = noneL ∨ verErr (vb m) = 0) ∧ ∀ p, prev = some p → noLess p.1 m.1 = false := by
  unfold capW at h
  by_cases h0 : pathErr m.1.data.toList = 0
  · rw [if_neg (by simp [h0])] at h
    by_cases h1 : vb m ≠ noneL ∧ verErr (vb m) ≠ 0
    · rw [if_pos h1] at h; exact absurd h h1.2
    · rw [if_neg h1] at h
      refine ⟨h0, ?_, fun p hp => ?_⟩
      · by_cases h2 : vb m = noneL
        · exact Or.inl h2
        · exact Or.inr (Classical.byContradiction fun h3 => h1 ⟨h2, h3⟩)
      · subst hp
        cases hc : noLess p.1 m.1 with
        | false => rfl
        | true => simp [hc] at h
  · rw [if_pos h0] at h; exact absurd h h0
theorem caps_each {caps : List Bm} (h : (chkP caps).1 = 0) {i : Nat} (hi : i < caps.length) : capW (prevOf caps i) caps[i] = 0 := by
  have := codeE_all h i hi
  unfold capE at this
  rw [List.getElem?_eq_getElem hi] at this
  exact this
theorem capE_at {caps : List Bm} {i : Nat} (hi : i < caps.length) : capE caps i = capW (prevOf caps i) caps[i] := by
  unfold capE
  rw [List.getElem?_eq_getElem hi]
theorem caps_bad {caps : List Bm} {k : Nat} (hk : k < caps.length) (h0 : ∀ j, j < k → capE caps j = 0) (h : capE caps k ≠ 0) : chkP caps = (capE caps k, some k) := by
  have hs := fstE_some h0 h hk
  unfold chkP
  rw [codeE_some hs, hs]
theorem caps_good {caps : List Bm} (h0 : ∀ j, j < caps.length → capE caps j = 0) : chkP caps = (0, none) := by
  have hs : fstE (capE caps) caps.length = none := fstE_none h0
  unfold chkP
  rw [codeE_none hs, hs]
theorem capW_path {prev : Option Bm} {m : Bm} (h : pathErr m.1.data.toList ≠ 0) : capW prev m = pathErr m.1.data.toList := by unfold capW; rw [if_pos h]
theorem capW_ver {prev : Option Bm} {m : Bm} (h : pathErr m.1.data.toList = 0) (h1 : vb m ≠ noneL) (h2 : verErr (vb m) ≠ 0) : capW prev m = verErr (vb m) := by unfold capW; rw [if_neg (by simp [h]), if_pos ⟨h1, h2⟩]
theorem capW_first {m : Bm} (h : pathErr m.1.data.toList = 0) (h1 : vb m = noneL ∨ verErr (vb m) = 0) : capW none m = 0 := by
  unfold capW
  rw [if_neg (by simp [h]), if_neg (by rintro ⟨a, b⟩; rcases h1 with h1 | h1 <;> contradiction)]
theorem capW_order {p m : Bm} (h : pathErr m.1.data.toList = 0) (h1 : vb m = noneL ∨ verErr (vb m) = 0) (h2 : noLess p.1 m.1 = true) : capW (some p) m = 8 := by
  unfold capW
  rw [if_neg (by simp [h]), if_neg (by rintro ⟨a, b⟩; rcases h1 with h1 | h1 <;> contradiction)]
  simp [h2]
theorem capW_right {p m : Bm} (h : pathErr m.1.data.toList = 0) (h1 : vb m = noneL ∨ verErr (vb m) = 0) (h2 : noLess p.1 m.1 = false) : capW (some p) m = 0 := by
  unfold capW
  rw [if_neg (by simp [h]), if_neg (by rintro ⟨a, b⟩; rcases h1 with h1 | h1 <;> contradiction)]
  simp [h2]
/-- By what FindPath answers. -/
theorem capB_none {caps : List Bm} {m : Bm} (h : ∀ c, c ∈ caps → c.1 ≠ m.1) : capB caps m = false := by
  unfold capB
  have : atP caps m.1 = none := List.find?_eq_none.2 fun c hc => by simpa using h c hc
  rw [this]
theorem capB_at {caps : List Bm} {m c : Bm} (h : atP caps m.1 = some c) : capB caps m = (decide (vb c = noneL) || lessB (vb c) (vb m)) := by
  unfold capB
  rw [h]
theorem atP_first {caps : List Bm} {p : ByteArray} {k : Nat} (hk : k < caps.length) (h : caps[k].1 = p) (h0 : ∀ j (h : j < caps.length), j < k → caps[j].1 ≠ p) : atP caps p = some caps[k] := by
  unfold atP
  rw [List.find?_eq_some_iff_getElem]
  exact ⟨by simpa using h, k, hk, rfl, fun j hj => by simpa using h0 j (by omega) hj⟩
theorem caps_next {caps : List Bm} (h : (chkP caps).1 = 0) {i : Nat} (hi : i + 1 < caps.length) : lt (caps[i]'(by omega)).1 caps[i + 1].1 = true := by
  have h1 := (capW_zero (caps_each h hi)).2.2 (caps[i]'(by omega)) (by
    unfold prevOf
    rw [if_neg (by omega)]
    exact List.getElem?_eq_getElem (by omega))
  unfold noLess at h1
  unfold lt
  simpa using h1
/-- Right caps: their paths rise. -/
theorem caps_rise {caps : List Bm} (h : (chkP caps).1 = 0) : rising caps := by
  refine List.pairwise_iff_getElem.2 fun i j hi hj hij => ?_
  obtain ⟨d, rfl⟩ : ∃ d, j = i + d + 1 := ⟨j - i - 1, by omega⟩
  clear hij
  induction d with
  | zero => exact caps_next h hj
  | succ d ih => exact lt_trans (ih (by omega)) (caps_next h (i := i + d + 1) hj)
/-- One cap less: nothing more is above one. -/
theorem capB_less {caps less : List Bm} (h : rising caps) (hs : less.Sublist caps) {m : Bm} (hm : capB less m = true) : capB caps m = true := by
  unfold capB at hm ⊢
  cases h1 : atP less m.1 with
  | none => rw [h1] at hm; cases hm
  | some c =>
    rw [h1] at hm
    have h2 : c ∈ less := List.mem_of_find?_eq_some h1
    have h3 : c.1 = m.1 := by have := List.find?_some h1; simpa using this
    have h4 := atP_rising h (hs.subset h2)
    rw [h3] at h4
    rw [h4]
    exact hm

/-- Who is bad: something above a cap is reached from it. -/
def Bd (req : Bm → List Bm) (caps : List Bm) (m : Bm) : Prop := ∃ k, Rch req [m] k ∧ capB caps k = true
theorem rch_head {req : Bm → List Bm} {m k : Bm} (h : Rch req [m] k) : k = m ∨ ∃ r, r ∈ req m ∧ Rch req [r] k := by
  induction h with
  | root hr => exact Or.inl (by simpa using hr)
  | step hp hr ih =>
    rcases ih with rfl | ⟨r, h1, h2⟩
    · exact Or.inr ⟨_, hr, .root (by simp)⟩
    · exact Or.inr ⟨r, h1, .step h2 hr⟩
theorem rch_tail {req : Bm → List Bm} {m r k : Bm} (hr : r ∈ req m) (h : Rch req [r] k) : Rch req [m] k := by
  induction h with
  | root h1 =>
    have := List.mem_singleton.1 h1
    subst this
    exact .step (.root (by simp)) hr
  | step _ h2 ih => exact .step ih h2
theorem rch_of {req : Bm → List Bm} {roots : List Bm} {k : Bm} (h : Rch req roots k) : ∃ r, r ∈ roots ∧ Rch req [r] k := by
  induction h with
  | root hr => exact ⟨_, hr, .root (by simp)⟩
  | step _ hr ih =>
    obtain ⟨r, h1, h2⟩ := ih
    exact ⟨r, h1, .step h2 hr⟩
theorem rch_in {req : Bm → List Bm} {roots : List Bm} {r k : Bm} (hr : r ∈ roots) (h : Rch req [r] k) : Rch req roots k :=
  h.mono fun m hm => by
    have : m = r := by simpa using hm
    rw [this]; exact hr
theorem bd_iff {req : Bm → List Bm} {caps : List Bm} {m : Bm} : Bd req caps m ↔ capB caps m = true ∨ ∃ r, r ∈ req m ∧ Bd req caps r := by
  constructor
  · rintro ⟨k, hk, hc⟩
    rcases rch_head hk with rfl | ⟨r, h1, h2⟩
    · exact Or.inl hc
    · exact Or.inr ⟨r, h1, k, h2, hc⟩
  · rintro (hc | ⟨r, h1, k, h2, hc⟩)
    · exact ⟨m, .root (by simp), hc⟩
    · exact ⟨k, rch_tail h1 h2, hc⟩
theorem bd_less {req : Bm → List Bm} {caps less : List Bm} (h : rising caps) (hs : less.Sublist caps) {m : Bm} (hm : Bd req less m) : Bd req caps m :=
  let ⟨k, h1, h2⟩ := hm
  ⟨k, h1, capB_less h hs h2⟩
theorem bd_self {req : Bm → List Bm} {caps : List Bm} {m : Bm} (h : ¬ Bd req caps m) : capB caps m = false := by
  cases hc : capB caps m with
  | false => rfl
  | true => exact absurd (bd_iff.2 (Or.inl hc)) h
theorem bd_reach {req : Bm → List Bm} {caps : List Bm} {m k : Bm} (h : ¬ Bd req caps m) (hk : Rch req [m] k) : ¬ Bd req caps k := fun ⟨x, h1, h2⟩ => h ⟨x, by
  clear h h2
  induction h1 with
  | root hr =>
    have := List.mem_singleton.1 hr
    rw [this]; exact hk
  | step _ hr ih => exact .step ih hr, h2⟩
/-- The least set that holds what is above a cap, and whatever requires one of it: by any that is closed. -/
theorem bd_least {req : Bm → List Bm} {caps : List Bm} {P : Bm → Prop} (h0 : ∀ m, capB caps m = true → P m) (h1 : ∀ m r, r ∈ req m → P r → P m) {m : Bm} (h : Bd req caps m) : P m := by
  obtain ⟨k, hk, hc⟩ := h
  have hP := h0 k hc
  clear hc
  induction hk with
  | root hr =>
    have := List.mem_singleton.1 hr
    rw [← this]; exact hP
  | step _ hr ih => exact ih (h1 _ _ hr hP)

/-- What a root becomes: the greatest of its path, not greater than it, that is not bad. -/
structure Lw (bad : Bm → Prop) (U : List Bm) (r x : Bm) : Prop where
  mem : x ∈ U
  path : x.1 = r.1
  le : lessB (vb r) (vb x) = false
  ok : ¬ bad x
  top : ∀ y, y ∈ U → y.1 = r.1 → lessB (vb r) (vb y) = false → ¬ bad y → lessB (vb x) (vb y) = false
/-- What the roots become, in order. -/
structure Tw (bad : Bm → Prop) (U roots X : List Bm) : Prop where
  ri : X.Pairwise fun a b => mAhead a b = true
  mem : ∀ x, x ∈ X ↔ ∃ r, r ∈ roots ∧ Lw bad U r x
/-- The modules of an index that is right. -/
structure Un (U : List Bm) : Prop where
  ri : U.Pairwise fun a b => mAhead a b = true
  ok : ∀ m, m ∈ U → mErr m = 0
theorem lessB_of {s t : List UInt8} (h : lessB s t = true) : verErr s = 0 ∧ verErr t = 0 ∧ ordV s t < 0 := by
  unfold lessB at h
  simpa using h
theorem mAhead_lt {a b : Bm} (h : mAhead a b = true) : lt a.1 b.1 = true ∨ (a.1 = b.1 ∧ lessB (vb a) (vb b) = true) := by
  by_cases e : a.1 = b.1
  · rw [ahead_same e] at h; exact Or.inr ⟨e, h⟩
  · rw [ahead_other e] at h; exact Or.inl h
theorem lessB_asymm {s t : List UInt8} (h : lessB s t = true) : lessB t s = false := by
  obtain ⟨h1, h2, h3⟩ := lessB_of h
  rw [less_right h2 h1, ordV_swap s t]
  simp
  omega
theorem lessB_irr (s : List UInt8) : lessB s s = false := by
  cases h : lessB s s with
  | false => rfl
  | true => have := lessB_asymm h; rw [h] at this; cases this
theorem mAhead_asymm {a b : Bm} (h : mAhead a b = true) : mAhead b a = false := by
  rcases mAhead_lt h with h1 | ⟨e, h1⟩
  · rw [ahead_other (fun e => by rw [e, lt_irrefl] at h1; cases h1)]
    exact lt_asymm h1
  · rw [ahead_same e.symm]; exact lessB_asymm h1
/-- Two rows in order, of the same modules, are one. -/
theorem ahead_ext : ∀ {E F : List Bm}, (E.Pairwise fun a b => mAhead a b = true) → (F.Pairwise fun a b => mAhead a b = true) → (∀ m, m ∈ E ↔ m ∈ F) → E = F
  | [], [], _, _, _ => rfl
  | [], f :: F, _, _, h => by have := (h f).2 (by simp); cases this
  | e :: E, [], _, _, h => by have := (h e).1 (by simp); cases this
  | e :: E, f :: F, hE, hF, h => by
    obtain ⟨hE1, hE2⟩ := List.pairwise_cons.1 hE
    obtain ⟨hF1, hF2⟩ := List.pairwise_cons.1 hF
    have irr : ∀ m : Bm, mAhead m m = true → False := fun m hm => by have := mAhead_asymm hm; rw [hm] at this; cases this
    have hef : e = f := by
      rcases List.mem_cons.1 ((h e).1 (by simp)) with a | a
      · exact a
      · rcases List.mem_cons.1 ((h f).2 (by simp)) with b | b
        · exact b.symm
        · have h1 := hF1 e a
          have h2 := hE1 f b
          rw [mAhead_asymm h1] at h2; cases h2
    subst hef
    have : E = F := ahead_ext hE2 hF2 fun m => by
      constructor
      · intro hm
        rcases List.mem_cons.1 ((h m).1 (List.mem_cons_of_mem _ hm)) with a | a
        · subst a; exact (irr _ (hE1 m hm)).elim
        · exact a
      · intro hm
        rcases List.mem_cons.1 ((h m).2 (List.mem_cons_of_mem _ hm)) with a | a
        · subst a; exact (irr _ (hF1 m hm)).elim
        · exact a
    rw [this]
theorem Tw.one {bad : Bm → Prop} {U roots X Y : List Bm} (h : Tw bad U roots X) (h' : Tw bad U roots Y) : X = Y :=
  ahead_ext h.ri h'.ri fun m => (h.mem m).trans (h'.mem m).symm
/-- Two of one path, neither less, are one. -/
theorem no_less {a b : Bm} (ha : mErr a = 0) (hb : mErr b = 0) (e : a.1 = b.1) (h1 : lessB (vb a) (vb b) = false) (h2 : lessB (vb b) (vb a) = false) : a = b := by
  rw [less_right (mErr_zero ha).2 (mErr_zero hb).2] at h1
  rw [less_right (mErr_zero hb).2 (mErr_zero ha).2] at h2
  exact ver_same ha hb e (ordV_total (by simpa using h2)) (ordV_total (by simpa using h1))
theorem Lw.same {bad : Bm → Prop} {U : List Bm} (u : Un U) {r x y : Bm} (h : Lw bad U r x) (h' : Lw bad U r y) : x = y :=
  no_less (u.ok x h.mem) (u.ok y h'.mem) (h.path.trans h'.path.symm) (h.top y h'.mem h'.path h'.le h'.ok) (h'.top x h.mem h.path h.le h.ok)
/-- One that is not bad becomes itself. -/
theorem Lw.self {bad : Bm → Prop} {U : List Bm} {x : Bm} (hx : x ∈ U) (h : ¬ bad x) : Lw bad U x x :=
  ⟨hx, rfl, lessB_irr _, h, fun _ _ _ h1 _ => h1⟩
theorem Tw.keeps {bad : Bm → Prop} {U roots X : List Bm} (h : Tw bad U roots X) {r : Bm} (hr : r ∈ roots) (hu : r ∈ U) (hb : ¬ bad r) : r ∈ X := (h.mem r).2 ⟨r, hr, Lw.self hu hb⟩
theorem Tw.good {bad : Bm → Prop} {U roots X : List Bm} (h : Tw bad U roots X) {x : Bm} (hx : x ∈ X) : x ∈ U ∧ ¬ bad x :=
  let ⟨_, _, h1⟩ := (h.mem x).1 hx
  ⟨h1.mem, h1.ok⟩
/-- What they became becomes itself. -/
theorem Tw.again {bad : Bm → Prop} {U roots X : List Bm} (u : Un U) (h : Tw bad U roots X) : Tw bad U X X :=
  ⟨h.ri, fun x => ⟨fun hx => ⟨x, hx, Lw.self (h.good hx).1 (h.good hx).2⟩, fun ⟨r, hr, h1⟩ => by
    rw [h1.same u (Lw.self (h.good hr).1 (h.good hr).2)]; exact hr⟩⟩
theorem Tw.from {bad : Bm → Prop} {U roots X : List Bm} (h : Tw bad U roots X) {x : Bm} (hx : x ∈ X) : ∃ r, r ∈ roots ∧ r.1 = x.1 ∧ lessB (vb r) (vb x) = false :=
  let ⟨r, hr, h1⟩ := (h.mem x).1 hx
  ⟨r, hr, h1.path.symm, h1.le⟩
/-- Nothing that is reached from what they became is above a cap. -/
theorem Tw.under {req : Bm → List Bm} {caps U roots X : List Bm} (h : Tw (Bd req caps) U roots X) {k : Bm} (hk : Rch req X k) : capB caps k = false := by
  obtain ⟨x, hx, h1⟩ := rch_of hk
  exact bd_self (bd_reach (h.good hx).2 h1)

/-- Would the k-th do for a root? -/
def lwB (U : List Bm) (O : List Bool) (r : Bm) (k : Nat) : Bool := match U[k]?, O[k]? with
  | some u, some o => decide (u.1 = r.1) && (!lessB (vb r) (vb u) && !o)
  | _, _ => false
theorem lwB_at {U : List Bm} {O : List Bool} {r : Bm} {k : Nat} (h : k < U.length) (h' : k < O.length) : lwB U O r k = (decide (U[k].1 = r.1) && (!lessB (vb r) (vb U[k]) && !O[k])) := by
  unfold lwB
  rw [List.getElem?_eq_getElem h, List.getElem?_eq_getElem h']
/-- The last of the first n that would do. -/
def bst (U : List Bm) (O : List Bool) (r : Bm) : Nat → Int
  | 0 => -1
  | n + 1 => if lwB U O r n then (n : Int) else bst U O r n
theorem bst_is (U : List Bm) (O : List Bool) (r : Bm) : ∀ n, (bst U O r n = -1 ∧ ∀ k, k < n → lwB U O r k = false) ∨ ∃ k, k < n ∧ bst U O r n = k ∧ lwB U O r k = true ∧ ∀ j, k < j → j < n → lwB U O r j = false
  | 0 => Or.inl ⟨rfl, fun k h => absurd h (Nat.not_lt_zero k)⟩
  | n + 1 => by
    unfold bst
    cases hl : lwB U O r n with
    | true => exact Or.inr ⟨n, by omega, if_pos rfl, hl, fun j h1 h2 => by omega⟩
    | false =>
      rw [if_neg (by simp)]
      rcases bst_is U O r n with ⟨h1, h2⟩ | ⟨k, h1, h2, h3, h4⟩
      · refine Or.inl ⟨h1, fun k hk => ?_⟩
        rcases Nat.lt_or_ge k n with h | h
        · exact h2 k h
        · have : k = n := by omega
          subst this; exact hl
      · refine Or.inr ⟨k, by omega, h2, h3, fun j hj hn => ?_⟩
        rcases Nat.lt_or_ge j n with h | h
        · exact h4 j hj h
        · have : j = n := by omega
          subst this; exact hl
/-- In an index that is right the last that would do is the greatest. -/
theorem bst_lw {bad : Bm → Prop} {U : List Bm} {O : List Bool} (u : Un U) (hl : O.length = U.length) (hO : ∀ i (h : i < U.length) (h' : i < O.length), O[i] = true ↔ bad U[i]) {r : Bm} {k : Nat} (hk : k < U.length) : bst U O r U.length = (k : Int) ↔ Lw bad U r U[k] := by
  have hw : ∀ i (h : i < U.length), lwB U O r i = true ↔ U[i].1 = r.1 ∧ lessB (vb r) (vb U[i]) = false ∧ ¬ bad U[i] := fun i h => by
    rw [lwB_at h (by omega), ← hO i h (by omega)]
    simp
  have hp := List.pairwise_iff_getElem.1 u.ri
  constructor
  · intro e
    rcases bst_is U O r U.length with ⟨h1, _⟩ | ⟨j, h1, h2, h3, h4⟩
    · omega
    · have : j = k := by omega
      subst this
      obtain ⟨a, b, c⟩ := (hw j hk).1 h3
      refine ⟨List.getElem_mem _, a, b, c, fun y hy e1 e2 e3 => ?_⟩
      obtain ⟨i, hi, rfl⟩ := List.getElem_of_mem hy
      rcases Nat.lt_trichotomy i j with h | h | h
      · have := hp i j hi hk h
        rw [ahead_same (e1.trans a.symm)] at this
        exact lessB_asymm this
      · subst h; exact lessB_irr _
      · have := h4 i h hi
        rw [(hw i hi).2 ⟨e1, e2, e3⟩] at this; cases this
  · intro h
    have hk1 := (hw k hk).2 ⟨h.path, h.le, h.ok⟩
    rcases bst_is U O r U.length with ⟨_, h2⟩ | ⟨j, h1, h2, h3, h4⟩
    · rw [h2 k hk] at hk1; cases hk1
    · rw [h2]
      obtain ⟨a, b, c⟩ := (hw j h1).1 h3
      rcases Nat.lt_trichotomy k j with h5 | h5 | h5
      · have := hp k j hk h1 h5
        rw [ahead_same (h.path.trans a.symm), h.top _ (List.getElem_mem _) a b c] at this; cases this
      · rw [h5]
      · rw [h4 k h5 hk] at hk1; cases hk1
/-- What is marked for the first i roots. -/
def kpN (U : List Bm) (O : List Bool) (R : List Bm) : List Bool := (List.range U.length).map fun (k : Nat) => R.any fun r => decide (bst U O r U.length = (k : Int))
theorem kpN_len (U : List Bm) (O : List Bool) (R : List Bm) : (kpN U O R).length = U.length := by simp [kpN]
theorem kpN_at {U : List Bm} {O : List Bool} {R : List Bm} {k : Nat} (h : k < (kpN U O R).length) : (kpN U O R)[k] = R.any fun r => decide (bst U O r U.length = (k : Int)) := by simp [kpN]
theorem kpN_zero (U : List Bm) (O : List Bool) : kpN U O [] = List.replicate U.length false := by
  refine List.ext_getElem (by simp [kpN]) fun i h1 h2 => ?_
  rw [kpN_at]; simp
theorem kpN_none {U : List Bm} {O : List Bool} {R : List Bm} {r : Bm} (h : bst U O r U.length < 0) : kpN U O (R ++ [r]) = kpN U O R := by
  refine List.ext_getElem (by simp [kpN]) fun i h1 h2 => ?_
  rw [kpN_at, kpN_at, List.any_append]
  have : ¬ bst U O r U.length = (i : Int) := by omega
  simp [this]
theorem kpN_some {U : List Bm} {O : List Bool} {R : List Bm} {r : Bm} {k : Nat} (h : bst U O r U.length = (k : Int)) : kpN U O (R ++ [r]) = (kpN U O R).set k true := by
  refine List.ext_getElem (by simp [kpN]) fun i h1 h2 => ?_
  rw [kpN_at, List.getElem_set, List.any_append]
  by_cases e : k = i
  · subst e
    rw [if_pos rfl]
    simp [h]
  · rw [if_neg e, kpN_at]
    have : ¬ bst U O r U.length = (i : Int) := by omega
    simp [this]
/-- Those that are marked are what the roots become. -/
theorem tw_sel {bad : Bm → Prop} {U : List Bm} {O : List Bool} (u : Un U) (hl : O.length = U.length) (hO : ∀ i (h : i < U.length) (h' : i < O.length), O[i] = true ↔ bad U[i]) (roots : List Bm) : Tw bad U roots (selO (kpN U O roots) U) := by
  classical
  have hn : ∀ i j (hi : i < U.length) (hj : j < U.length), U[i] = U[j] → i = j := fun i j hi hj e => by
    have hp := List.pairwise_iff_getElem.1 u.ri
    rcases Nat.lt_trichotomy i j with h | h | h
    · have := hp i j hi hj h
      rw [e] at this
      have h2 := mAhead_asymm this
      rw [this] at h2; cases h2
    · exact h
    · have := hp j i hj hi h
      rw [e] at this
      have h2 := mAhead_asymm this
      rw [this] at h2; cases h2
  have hs : selO (kpN U O roots) U = U.filter fun x => decide (∃ r, r ∈ roots ∧ ∃ k, ∃ hk : k < U.length, U[k] = x ∧ bst U O r U.length = (k : Int)) := by
    refine selO_filter _ _ _ (kpN_len _ _ _) fun i h h' => ?_
    rw [kpN_at, Bool.eq_iff_iff, List.any_eq_true, decide_eq_true_iff]
    constructor
    · rintro ⟨r, hr, hb⟩
      exact ⟨r, hr, i, h, rfl, by simpa using hb⟩
    · rintro ⟨r, hr, k, hk, e, hb⟩
      have := hn k i hk h e
      subst this
      exact ⟨r, hr, by simpa using hb⟩
  rw [hs]
  refine ⟨u.ri.filter _, fun x => ?_⟩
  rw [List.mem_filter, decide_eq_true_iff]
  constructor
  · rintro ⟨_, r, hr, k, hk, rfl, hb⟩
    exact ⟨r, hr, (bst_lw u hl hO hk).1 hb⟩
  · rintro ⟨r, hr, h⟩
    obtain ⟨k, hk, rfl⟩ := List.getElem_of_mem h.mem
    exact ⟨h.mem, r, hr, k, hk, rfl, (bst_lw u hl hO hk).2 h⟩
end Ve
end Go.Proofs.YtjhiajeeijfkeaaGreatDoor

/-
  Older ones, plain: marks that spread by what is required; the places from a root down.
-/
namespace Go.Proofs.YtjhiajeeijfkeaaGreatDoor
open Go.RowKit
namespace Ve

/-- The places of what each requires. -/
structure Nd (req : Bm → List Bm) (U : List Bm) (NV : List (List Nat)) : Prop where
  ln : NV.length = U.length
  fw : ∀ i (h : i < U.length) (h' : i < NV.length) r, r ∈ req U[i] → ∃ k, ∃ hk : k < U.length, k ∈ NV[i] ∧ U[k] = r
  bk : ∀ i (h : i < U.length) (h' : i < NV.length) k, k ∈ NV[i] → ∃ hk : k < U.length, U[k] ∈ req U[i]
/-- Marks, as far as they have spread: what is above a cap is marked; what is marked is bad. -/
structure Sd (req : Bm → List Bm) (caps U : List Bm) (O : List Bool) : Prop where
  ln : O.length = U.length
  so : ∀ i (h : i < U.length) (h' : i < O.length), O[i] = true → Bd req caps U[i]
  ca : ∀ i (h : i < U.length) (h' : i < O.length), capB caps U[i] = true → O[i] = true
/-- Is one of these places marked? -/
def anyO (O : List Bool) (P : List Nat) : Bool := P.any fun k => O[k]?.getD false
theorem anyO_iff {O : List Bool} {P : List Nat} : anyO O P = true ↔ ∃ k, ∃ hk : k < O.length, k ∈ P ∧ O[k] = true := by
  unfold anyO
  rw [List.any_eq_true]
  constructor
  · rintro ⟨k, h1, h2⟩
    by_cases hk : k < O.length
    · rw [List.getElem?_eq_getElem hk] at h2
      exact ⟨k, hk, h1, h2⟩
    · rw [List.getElem?_eq_none (by omega)] at h2; cases h2
  · rintro ⟨k, hk, h1, h2⟩
    exact ⟨k, h1, by rw [List.getElem?_eq_getElem hk]; exact h2⟩
/-- Nothing is to be marked at a place. -/
def Qt (NV : List (List Nat)) (O : List Bool) (i : Nat) : Prop := ∀ (h : i < O.length) (h' : i < NV.length), O[i] = false → anyO O NV[i] = false
theorem Sd.set {req : Bm → List Bm} {caps U : List Bm} {O : List Bool} {NV : List (List Nat)} (S : Sd req caps U O) (N : Nd req U NV) {i : Nat} (h : i < U.length) (h' : i < NV.length) (ha : anyO O NV[i] = true) : Sd req caps U (O.set i true) := by
  refine ⟨by rw [List.length_set]; exact S.ln, fun j hj hj' ho => ?_, fun j hj hj' hc => ?_⟩
  · rw [List.getElem_set] at ho
    by_cases e : i = j
    · subst e
      obtain ⟨k, hk, h1, h2⟩ := anyO_iff.1 ha
      obtain ⟨hk', h3⟩ := N.bk i h h' k h1
      exact bd_iff.2 (Or.inr ⟨_, h3, S.so k hk' hk h2⟩)
    · rw [if_neg e] at ho
      exact S.so j hj (by rw [S.ln]; exact hj) ho
  · rw [List.getElem_set]
    by_cases e : i = j
    · rw [if_pos e]
    · rw [if_neg e]; exact S.ca j hj (by rw [S.ln]; exact hj) hc
/-- Where nothing is to be marked any more: just what is bad is marked. -/
theorem Sd.done {req : Bm → List Bm} {caps U : List Bm} {O : List Bool} {NV : List (List Nat)} (S : Sd req caps U O) (N : Nd req U NV) (hq : ∀ i, i < U.length → Qt NV O i) : ∀ i (h : i < U.length) (h' : i < O.length), O[i] = true ↔ Bd req caps U[i] := by
  intro i h h'
  refine ⟨S.so i h h', fun hb => ?_⟩
  refine bd_least (P := fun m => ∀ j (hj : j < U.length) (hj' : j < O.length), U[j] = m → O[j] = true) (fun m hm j hj hj' e => S.ca j hj hj' (by rw [e]; exact hm)) (fun m r hr hP j hj hj' e => ?_) hb i h h' rfl
  cases ho : O[j] with
  | true => rfl
  | false =>
    have hn : j < NV.length := by rw [N.ln]; exact hj
    have hq := hq j hj hj' hn ho
    obtain ⟨k, hk, h1, h2⟩ := N.fw j hj hn r (by rw [e]; exact hr)
    have hk' : k < O.length := by rw [S.ln]; exact hk
    have := anyO_iff.2 ⟨k, hk', h1, hP k hk hk' h2⟩
    rw [hq] at this; cases this
/-- The places from one down. -/
def dnL (k : Nat) : Nat → List Nat
  | 0 => []
  | t + 1 => dnL k t ++ [k - t]
theorem dnL_mem {k x : Nat} : ∀ t, t ≤ k + 1 → (x ∈ dnL k t ↔ x ≤ k ∧ k - t < x ∨ (x = 0 ∧ t = k + 1))
  | 0, _ => by
    constructor
    · intro h; cases h
    · rintro (⟨h1, h2⟩ | ⟨_, h⟩) <;> omega
  | t + 1, ht => by
    show x ∈ dnL k t ++ [k - t] ↔ _
    rw [List.mem_append, dnL_mem t (by omega), List.mem_singleton]
    omega
/-- Is one of the same path? -/
theorem path_mid {U : List Bm} (u : Un U) {j i k : Nat} (hk : k < U.length) (h1 : j ≤ i) (h2 : i ≤ k) (e : (U[j]'(by omega)).1 = U[k].1) : (U[i]'(by omega)).1 = U[k].1 := by
  have hp := List.pairwise_iff_getElem.1 u.ri
  rcases Nat.lt_or_ge i k with h3 | h3
  · rcases Nat.lt_or_ge j i with h4 | h4
    · rcases mAhead_lt (hp j i (by omega) (by omega) h4) with a | ⟨a, _⟩
      · rcases mAhead_lt (hp i k (by omega) hk h3) with b | ⟨b, _⟩
        · have := lt_trans a b
          rw [e, lt_irrefl] at this; cases this
        · exact b
      · rw [← a]; exact e
    · have : j = i := by omega
      subst this; exact e
  · have : i = k := by omega
    subst this; rfl
theorem lwB_down {U : List Bm} {O : List Bool} (u : Un U) (hl : O.length = U.length) {k : Nat} (hk : k < U.length) {j : Nat} (hj : j < U.length) : lwB U O U[k] j = true ↔ j ≤ k ∧ U[j].1 = U[k].1 ∧ O[j]'(by omega) = false := by
  have hp := List.pairwise_iff_getElem.1 u.ri
  rw [lwB_at hj (by omega)]
  simp only [Bool.and_eq_true, Bool.not_eq_true', decide_eq_true_eq]
  constructor
  · rintro ⟨h1, h2, h3⟩
    refine ⟨?_, h1, h3⟩
    rcases Nat.lt_or_ge k j with h | h
    · have := hp k j hk hj h
      rw [ahead_same h1.symm, h2] at this; cases this
    · exact h
  · rintro ⟨h1, h2, h3⟩
    refine ⟨h2, ?_, h3⟩
    rcases Nat.lt_or_ge j k with h | h
    · have := hp j k hj hk h
      rw [ahead_same h2] at this
      exact lessB_asymm this
    · have : j = k := by omega
      subst this; exact lessB_irr _
/-- All from the root down were bad, and then another path comes, or nothing. -/
theorem bst_no {U : List Bm} {O : List Bool} (u : Un U) (hl : O.length = U.length) {k t : Nat} (hk : k < U.length) (ht : t ≤ k + 1) (hb : ∀ x, x ∈ dnL k t → ∀ (h : x < O.length), O[x] = true) (he : t = k + 1 ∨ ∀ (h : k - t < U.length), U[k - t].1 ≠ U[k].1) : bst U O U[k] U.length < 0 := by
  rcases bst_is U O U[k] U.length with ⟨h1, _⟩ | ⟨j, h1, h2, h3, _⟩
  · omega
  · obtain ⟨a, b, c⟩ := (lwB_down u hl hk h1).1 h3
    exfalso
    by_cases hm : j ∈ dnL k t
    · have := hb j hm (by omega)
      rw [this] at c; cases c
    · rw [dnL_mem t ht] at hm
      rcases he with he | he
      · omega
      · exact he (by omega) (path_mid u hk (by omega) (by omega) b)
/-- The first that is not bad, from the root down. -/
theorem bst_yes {U : List Bm} {O : List Bool} (u : Un U) (hl : O.length = U.length) {k t : Nat} (hk : k < U.length) (ht : t ≤ k) (hb : ∀ x, x ∈ dnL k t → ∀ (h : x < O.length), O[x] = true) (hp : (U[k - t]'(by omega)).1 = U[k].1) (ho : O[k - t]'(by omega) = false) : bst U O U[k] U.length = ((k - t : Nat) : Int) := by
  have hw := (lwB_down u hl hk (show k - t < U.length by omega)).2 ⟨by omega, hp, ho⟩
  rcases bst_is U O U[k] U.length with ⟨_, h2⟩ | ⟨j, h1, h2, h3, h4⟩
  · rw [h2 _ (by omega)] at hw; cases hw
  · rw [h2]
    obtain ⟨a, b, c⟩ := (lwB_down u hl hk h1).1 h3
    rcases Nat.lt_trichotomy j (k - t) with h | h | h
    · rw [h4 _ h (by omega)] at hw; cases hw
    · rw [h]
    · have := hb j ((dnL_mem t (by omega)).2 (by omega)) (by omega)
      rw [this] at c; cases c
end Ve
end Go.Proofs.YtjhiajeeijfkeaaGreatDoor

/-
  What checkVersion and Check of package down answer; nothing old in memory turns.
-/
namespace Go.Proofs.YtjhiajeeijfkeaaGreatDoor
open Go.RowKit
namespace Ve

set_option maxHeartbeats 1000000 in
theorem vcheckD (s : ByteArray) (aT aB : Addr) (m : Int) (w : World) (hs : s.size < 4294967281) (S : Vs w aT aB m) :
    Calls Tryz.prog 61 #[.string s] w fun e w' => e = .returned (errV aT aB (verErr s.data.toList)) ∧ Below w.heap.size w w' := by
  have HC := hid (vsplit_any s aT aB m w hs S)
  clear S
  go_enter Tryz.func61, Tryz.ntmps61
  go_wp2_with fail
  refine HC.out.mono ?_
  rintro e w1 ⟨h1, hb⟩
  have HB := hid hb
  clear hb
  rcases h1 with ⟨h0, rfl⟩ | ⟨h0, v, X, rfl, _, hst⟩
  · obtain ⟨a, ha⟩ := errV_ne aT aB h0
    have HE := hid ha
    rw [ha]
    clear h0 ha
    go_wp2_with fail
    go_ret
    exact ⟨by rw [HE.out]; rfl, HB.out.alloc HB.out.size _⟩
  · obtain ⟨p, n, c, rfl⟩ := hst.slice
    have HE := hid (show errV aT aB (verErr s.data.toList) = .nilIface by rw [h0]; rfl)
    clear h0 hst
    go_wp2_with fail
    go_ret
    exact ⟨by rw [HE.out]; rfl, HB.out.alloc HB.out.size _⟩
/-- What is wrong with a cap's version. -/
def capV (l : List UInt8) : Nat := if l = noneL then 0 else verErr l
set_option maxHeartbeats 1000000 in
theorem ckV_any (s : ByteArray) (A : Nat → Addr) (m : Int) (w : World) (hs : s.size < 4294967281) (S : Te w A m) :
    Calls Tryz.prog 37 #[.string s] w fun e w' => e = .returned (errA A (capV s.data.toList)) ∧ Below w.heap.size w w' := by
  have HC := hid (vcheckD s (A 0) (A 1) m w hs S.vs)
  clear S
  by_cases h : s.data.toList = noneL
  · have HX := hid (show capV s.data.toList = 0 from if_pos h)
    have hq : (s.toList == [110, 111, 110, 101]) = true := by rw [ByteArray.toList_eq]; exact beq_iff_eq.2 h
    clear h
    go_enter Tryz.func37, Tryz.ntmps37
    go_wp2_with fail
    go_ret
    exact ⟨by rw [HX.out]; rfl, Below.refl _ _⟩
  · have HX := hid (show capV s.data.toList = verErr s.data.toList from if_neg h)
    have HV := hid (errA_V A (verErr s.data.toList) (verErr_err _))
    have hq : (s.toList == [110, 111, 110, 101]) = false := by rw [ByteArray.toList_eq]; exact beq_eq_false_iff_ne.2 h
    clear h
    rw [HV.out] at HC
    obtain ⟨r, hr⟩ : ∃ r, errA A (verErr s.data.toList) = r := ⟨_, rfl⟩
    have HR := hid hr
    rw [hr] at HC
    clear hr
    go_enter Tryz.func37, Tryz.ntmps37
    go_wp2_with fail
    refine HC.out.mono ?_
    rintro e w1 ⟨rfl, hb⟩
    have HB := hid hb
    clear hb
    go_wp2_with fail
    go_ret
    exact ⟨by rw [HX.out, HR.out]; rfl, HB.out⟩
theorem capV_err {m : Bm} (h : capV (vb m) ≠ 0) : vb m ≠ noneL ∧ verErr (vb m) ≠ 0 := by
  unfold capV at h
  by_cases e : vb m = noneL
  · rw [if_pos e] at h; exact absurd rfl h
  · rw [if_neg e] at h; exact ⟨e, h⟩
theorem capV_zero {m : Bm} (h : capV (vb m) = 0) : vb m = noneL ∨ verErr (vb m) = 0 := by
  unfold capV at h
  by_cases e : vb m = noneL
  · exact Or.inl e
  · rw [if_neg e] at h; exact Or.inr h
theorem capV_is {m : Bm} (h : capV (vb m) ≠ 0) : capV (vb m) = verErr (vb m) := if_neg (capV_err h).1
set_option maxHeartbeats 1000000 in
theorem ckK_path (i : Int) (p v : ByteArray) (x : Value) (pr : Option Bm) (A : Nat → Addr) (m : Int) (W : World) (hp : p.size < 999999) (S : Te W A m) (h : pathErr p.data.toList ≠ 0) :
    Calls Tryz.prog 35 #[.int .i64 i, .agg #[.string p, .string v], x] W fun e w' => e = .returned (errA A (capW pr (p, v))) ∧ Below W.heap.size W w' := by
  rw [capW_path (m := (p, v)) h, errA_if A h]
  have HB0 := hid ((Below.refl W.heap.size W).alloc (Nat.le_refl _) (.cells #[.string p, .string v] 36))
  have HC := hid (mpath_ix p A m _ (by omega) (S.below HB0.out))
  rw [errA_if A h] at HC
  clear S h
  go_enter Tryz.func35, Tryz.ntmps35
  go_wp2_with fail
  refine HC.out.mono ?_
  rintro e w1 ⟨rfl, hb⟩
  have HB := hid (HB0.out.trans (hb.mono HB0.out.size))
  clear hb
  go_wp2_with fail
  go_ret
  exact ⟨rfl, HB.out⟩
set_option maxHeartbeats 1000000 in
theorem ckK_ver (i : Int) (p v : ByteArray) (x : Value) (pr : Option Bm) (A : Nat → Addr) (m : Int) (W : World) (hp : p.size < 999999) (hv : v.size < 999999) (S : Te W A m) (h : pathErr p.data.toList = 0) (h1 : capV v.data.toList ≠ 0) :
    Calls Tryz.prog 35 #[.int .i64 i, .agg #[.string p, .string v], x] W fun e w' => e = .returned (errA A (capW pr (p, v))) ∧ Below W.heap.size W w' := by
  rw [capW_ver (m := (p, v)) h (capV_err (m := (p, v)) h1).1 (capV_err (m := (p, v)) h1).2, ← capV_is (m := (p, v)) h1]
  show Calls Tryz.prog 35 #[.int .i64 i, .agg #[.string p, .string v], x] W fun e w' => e = .returned (errA A (capV v.data.toList)) ∧ Below W.heap.size W w'
  rw [errA_if A h1]
  have HB0 := hid ((Below.refl W.heap.size W).alloc (Nat.le_refl _) (.cells #[.string p, .string v] 36))
  have HC := hid (mpath_ix p A m _ (by omega) (S.below HB0.out))
  rw [h, errA0] at HC
  have HV := hid (fun W' (h : Below W.heap.size W W') => ckV_any v A m W' (by omega) (S.below h))
  rw [errA_if A h1] at HV
  clear S h h1
  go_enter Tryz.func35, Tryz.ntmps35
  go_wp2_with fail
  refine HC.out.mono ?_
  rintro e w1 ⟨rfl, hb⟩
  obtain ⟨⟨r0, r1⟩, rz⟩ := res2 (hb.mono (by simp))
  have HB := hid (HB0.out.trans (hb.mono HB0.out.size))
  clear hb
  go_wp2_with fail
  refine (HV.out _ HB.out).mono ?_
  rintro e w2 ⟨rfl, hb⟩
  have HB2 := hid (HB.out.trans (hb.mono HB.out.size))
  clear hb
  go_wp2_with fail
  go_ret
  exact ⟨rfl, HB2.out⟩
set_option maxHeartbeats 1000000 in
theorem ckK_0 (p v : ByteArray) (x : Value) (A : Nat → Addr) (m : Int) (W : World) (hp : p.size < 999999) (hv : v.size < 999999) (S : Te W A m) (h : pathErr p.data.toList = 0) (h1 : capV v.data.toList = 0) :
    Calls Tryz.prog 35 #[.int .i64 0, .agg #[.string p, .string v], x] W fun e w' => e = .returned (errA A (capW none (p, v))) ∧ Below W.heap.size W w' := by
  rw [capW_first (m := (p, v)) h (capV_zero (m := (p, v)) h1), errA0]
  have HB0 := hid ((Below.refl W.heap.size W).alloc (Nat.le_refl _) (.cells #[.string p, .string v] 36))
  have HC := hid (mpath_ix p A m _ (by omega) (S.below HB0.out))
  rw [h, errA0] at HC
  have HV := hid (fun W' (h : Below W.heap.size W W') => ckV_any v A m W' (by omega) (S.below h))
  rw [h1, errA0] at HV
  clear S h h1
  go_enter Tryz.func35, Tryz.ntmps35
  go_wp2_with fail
  refine HC.out.mono ?_
  rintro e w1 ⟨rfl, hb⟩
  obtain ⟨⟨r0, r1⟩, rz⟩ := res2 (hb.mono (by simp))
  have HB := hid (HB0.out.trans (hb.mono HB0.out.size))
  clear hb
  go_wp2_with fail
  refine (HV.out _ HB.out).mono ?_
  rintro e w2 ⟨rfl, hb⟩
  have HB2 := hid (HB.out.trans (hb.mono HB.out.size))
  have s0 := cell_below hb r0
  clear hb
  go_wp2_with fail
  go_quiet (fail)
  go_wp2_with fail
  go_ret
  exact ⟨rfl, below_drawn_of HB2.out _⟩
set_option maxHeartbeats 1000000 in
theorem ckK_1 (k : Nat) (p v q u : ByteArray) (b2 b o n c : Nat) (A : Nat → Addr) (m : Int) (W : World) (hp : p.size < 999999) (hv : v.size < 999999) (S : Te W A m) (h : pathErr p.data.toList = 0) (h1 : capV v.data.toList = 0)
    (h2 : W.cell? ⟨b2, 0, none⟩ = some (.slice (some ⟨b, o, none⟩) n c)) (hk : k < n) (hn : n ≤ 1000000) (h3 : W.cell? ⟨b, o + k * 2, none⟩ = some (.string q)) :
    Calls Tryz.prog 35 #[.int .i64 ((k : Int) + 1), .agg #[.string p, .string v], .pointer (some ⟨b2, 0, none⟩)] W fun e w' => e = .returned (errA A (capW (some (q, u)) (p, v))) ∧ Below W.heap.size W w' := by
  have hge : ∀ X : World, (binOp BinOp.geq 9 (.string q) (.string p)).run Tryz.prog X = .ok (.bool (noLess q p)) X := fun X => by rw [← noLess_is]; rfl
  have HB0 := hid ((Below.refl W.heap.size W).alloc (Nat.le_refl _) (.cells #[.string p, .string v] 36))
  have HC := hid (mpath_ix p A m _ (by omega) (S.below HB0.out))
  rw [h, errA0] at HC
  have HV := hid (fun W' (h : Below W.heap.size W W') => ckV_any v A m W' (by omega) (S.below h))
  rw [h1, errA0] at HV
  have HG := hid (fun X (h : Below W.heap.size W X) => (S.below h).sen.g7)
  have H2 := hid h2
  have H3 := hid h3
  have HZ := hid (show capV v.data.toList = 0 from h1)
  have HP := hid h
  clear S h h1 h2 h3
  have g1 : (0 : Int) ≤ (k : Int) := by omega
  have g2 : (k : Int) < (n : Int) := by omega
  have g3 : (k : Int) + 1 - 1 = (k : Int) := by omega
  have g4 : (0 : Int) < (k : Int) + 1 := by omega
  have gw : IntKind.i64.wrap (k : Int) = (k : Int) := by rw [IntKind.wrap_i64]; omega
  cases hz : noLess q p
  · rw [capW_right (p := (q, u)) (m := (p, v)) HP.out (capV_zero (m := (p, v)) HZ.out) hz, errA0]
    rw [hz] at hge
    clear hz
    go_enter Tryz.func35, Tryz.ntmps35
    go_wp2_with fail
    refine HC.out.mono ?_
    rintro e w1 ⟨rfl, hb⟩
    obtain ⟨⟨r0, r1⟩, rz⟩ := res2 (hb.mono (by simp))
    have HB := hid (HB0.out.trans (hb.mono HB0.out.size))
    clear hb
    go_wp2_with fail
    refine (HV.out _ HB.out).mono ?_
    rintro e w2 ⟨rfl, hb⟩
    have HB2 := hid (HB.out.trans (hb.mono HB.out.size))
    have s0 := cell_below hb r0
    have c2 := cell_below HB2.out H2.out
    have c3 := cell_below HB2.out H3.out
    clear hb r0 r1 rz
    go_wp2_with fail
    go_quiet (fail)
    go_wp2_with fail
    go_ret
    exact ⟨rfl, below_drawn_of HB2.out _⟩
  · rw [capW_order (p := (q, u)) (m := (p, v)) HP.out (capV_zero (m := (p, v)) HZ.out) hz, errA_if A (by omega)]
    rw [hz] at hge
    clear hz
    go_enter Tryz.func35, Tryz.ntmps35
    go_wp2_with fail
    refine HC.out.mono ?_
    rintro e w1 ⟨rfl, hb⟩
    obtain ⟨⟨r0, r1⟩, rz⟩ := res2 (hb.mono (by simp))
    have HB := hid (HB0.out.trans (hb.mono HB0.out.size))
    clear hb
    go_wp2_with fail
    refine (HV.out _ HB.out).mono ?_
    rintro e w2 ⟨rfl, hb⟩
    have HB2 := hid (HB.out.trans (hb.mono HB.out.size))
    have s0 := cell_below hb r0
    have c2 := cell_below HB2.out H2.out
    have c3 := cell_below HB2.out H3.out
    have gg := HG.out _ HB2.out
    clear hb r0 r1 rz
    go_wp2_with fail
    go_quiet (fail)
    go_wp2_with fail
    go_ret
    exact ⟨rfl, below_drawn_of HB2.out _⟩
theorem capE_0 {L : List Bm} (h : 0 < L.length) : capE L 0 = capW none L[0] := by
  unfold capE prevOf; rw [List.getElem?_eq_getElem h]; rfl
theorem capE_1 {L : List Bm} {k : Nat} (h : k + 1 < L.length) : capE L (k + 1) = capW (some (L[k]'(by omega))) L[k + 1] := by
  unfold capE prevOf; rw [List.getElem?_eq_getElem h, if_neg (by omega)]; simp only [Nat.add_sub_cancel]; rw [List.getElem?_eq_getElem (show k < L.length by omega)]
theorem ckK_any (L : List Bm) (b2 : Nat) (v : Value) (A : Nat → Addr) (m : Int) (W : World) (hL : L.length ≤ 1000000) (hs : shortL L) (S : Te W A m) (h2 : W.cell? ⟨b2, 0, none⟩ = some v) (hv : MsAt W v L) (i : Nat) (hi : i < L.length) :
    Calls Tryz.prog 35 (#[.int .i64 (i : Int), .agg #[.string L[i].1, .string L[i].2]] ++ #[.pointer (some ⟨b2, 0, none⟩)]) W fun e w' => e = .returned (errA A (capE L i)) ∧ Below W.heap.size W w' := by
  obtain ⟨a, c, rfl, _, h⟩ := hv
  obtain ⟨b, o, rfl, hc⟩ := h (by intro e; rw [e] at hi; simp at hi)
  have hz := hs L[i] (List.getElem_mem hi)
  cases i with
  | zero =>
    rw [capE_0 hi]
    by_cases e0 : pathErr L[0].1.data.toList = 0
    · by_cases e1 : capV L[0].2.data.toList = 0
      · exact ckK_0 L[0].1 L[0].2 _ A m W hz.1 hz.2 S e0 e1
      · exact ckK_ver 0 L[0].1 L[0].2 _ none A m W hz.1 hz.2 S e0 e1
    · exact ckK_path 0 L[0].1 L[0].2 _ none A m W hz.1 S e0
  | succ k =>
    rw [capE_1 hi]
    by_cases e0 : pathErr L[k + 1].1.data.toList = 0
    · by_cases e1 : capV L[k + 1].2.data.toList = 0
      · exact ckK_1 k L[k + 1].1 L[k + 1].2 L[k].1 L[k].2 b2 b o L.length c A m W hz.1 hz.2 S e0 e1 h2 (by omega) hL (hc k (by omega)).1
      · exact ckK_ver _ L[k + 1].1 L[k + 1].2 _ _ A m W hz.1 hz.2 S e0 e1
    · exact ckK_path _ L[k + 1].1 L[k + 1].2 _ _ A m W hz.1 S e0
set_option maxHeartbeats 1000000 in
/-- down.Check. -/
theorem caps_any (L : List Bm) (v : Value) (A : Nat → Addr) (m : Int) (w : World) (hL : L.length ≤ 1000000) (hs : shortL L) (S : Te w A m) (hv : MsAt w v L) :
    Calls Tryz.prog 17 #[v] w fun e w' => ∃ u, e = .returned u ∧ ErrAt w' A u (chkP L).1 (chkP L).2 ∧ Below w.heap.size w w' := by
  obtain ⟨vp, vn, vc, rfl⟩ := hv.slice
  have HB0 := hid ((Below.refl w.heap.size w).alloc (Nat.le_refl _) (.cells #[.slice vp vn vc] 23))
  have eg : ∀ args w, (callFunc 35 args).run Tryz.prog w = .ok (.enter 35 args) w := enters_of Tryz.func35 (by kernel_rfl) rfl
  have HF := hid (first_any 35 #[.pointer (some ⟨w.heap.size, 0, none⟩)] (capE L) L _ A (w.alloc (.cells #[.slice vp vn vc] 23)) eg hL (hv.below HB0.out) (fun i hi W hW =>
    ckK_any L w.heap.size _ A m W hL hs ((S.below HB0.out).below hW) (cell_below hW (by simp)) ((hv.below HB0.out).below hW) i hi))
  clear S hv eg
  go_enter Tryz.func17, Tryz.ntmps17
  go_wp2_with fail
  refine HF.out.mono ?_
  rintro e w1 ⟨u, rfl, he, hb⟩
  have HB := hid (HB0.out.trans (hb.mono HB0.out.size))
  have HE := hid he
  clear hb he
  go_wp2_with fail
  go_ret
  exact ⟨_, rfl, HE.out, HB.out⟩
end Ve
end Go.Proofs.YtjhiajeeijfkeaaGreatDoor

/-
  What slices.IndexFunc and slices.ContainsFunc answer over modules; what mvs.Under answers; nothing old in memory turns.
-/
namespace Go.Proofs.YtjhiajeeijfkeaaGreatDoor
open Go.RowKit
namespace Ve

/-- The first place where a test holds, or -1. -/
def idxB (P : Bm → Bool) (L : List Bm) : Int := if L.any P then (L.findIdx P : Int) else -1
theorem idxB_hit {P : Bm → Bool} {L : List Bm} {k : Nat} (hk : k < L.length) (h0 : ∀ j (hj : j < L.length), j < k → P L[j] = false) (h : P L[k] = true) : idxB P L = (k : Int) := by
  unfold idxB
  rw [if_pos (List.any_eq_true.2 ⟨L[k], List.getElem_mem hk, h⟩), (List.findIdx_eq hk).2 ⟨h, fun j hj => h0 j (by omega) hj⟩]
theorem idxB_not {P : Bm → Bool} {L : List Bm} (h0 : ∀ j (hj : j < L.length), P L[j] = false) : idxB P L = -1 := by
  unfold idxB
  rw [if_neg]
  intro h
  obtain ⟨x, hx, h1⟩ := List.any_eq_true.1 h
  obtain ⟨j, hj, rfl⟩ := List.getElem_of_mem hx
  rw [h0 j hj] at h1; cases h1
theorem idxB_next {P : Bm → Bool} {L : List Bm} {k : Nat} (hk : k < L.length) (h0 : ∀ j (hj : j < L.length), j < k → P L[j] = false) (h : P L[k] = false) : ∀ j (hj : j < L.length), j < k + 1 → P L[j] = false := fun j hj hjk => by
  rcases Nat.lt_or_ge j k with h1 | h1
  · exact h0 j hj h1
  · have : j = k := by omega
    subst this; exact h
theorem idxB_kind (P : Bm → Bool) (L : List Bm) : (idxB P L = -1 ∧ ∀ x, x ∈ L → P x = false) ∨ ∃ k, ∃ hk : k < L.length, idxB P L = (k : Int) ∧ P L[k] = true ∧ ∀ j (hj : j < L.length), j < k → P L[j] = false := by
  by_cases h : L.any P
  · refine Or.inr ⟨L.findIdx P, List.findIdx_lt_length.2 (List.any_eq_true.1 h), by unfold idxB; rw [if_pos h], List.findIdx_getElem, fun j hj hjk => ?_⟩
    have := List.not_of_lt_findIdx hjk
    simpa using this
  · refine Or.inl ⟨by unfold idxB; rw [if_neg h], fun x hx => ?_⟩
    cases hp : P x
    · rfl
    · exact absurd (List.any_eq_true.2 ⟨x, hx, hp⟩) h
set_option maxHeartbeats 2000000 in
set_option maxRecDepth 100000 in
theorem idxM_some (K : Nat) (cb : Array Value) (P : Bm → Bool) (L : List Bm) (b o c : Nat) (w : World) (eg : ∀ args w, (callFunc K args).run Tryz.prog w = .ok (.enter K args) w) (hL : L.length ≤ 1000000)
    (hc : ∀ j (h : j < L.length), w.cell? ⟨b, o + j * 2, none⟩ = some (.string L[j].1) ∧ w.cell? ⟨b, o + j * 2 + 1, none⟩ = some (.string L[j].2))
    (hK : ∀ i (h : i < L.length) W, Below w.heap.size w W → Calls Tryz.prog K (#[.agg #[.string L[i].1, .string L[i].2]] ++ cb) W fun e w' => e = .returned (.bool (P L[i])) ∧ Below W.heap.size W w') :
    Calls Tryz.prog 108 #[.slice (some ⟨b, o, none⟩) L.length c, .func (.func K) #[] cb] w fun e w' => e = .returned (.int .i64 (idxB P L)) ∧ Below w.heap.size w w' := by
  have HK := hid hK
  have HC := hid hc
  generalize hr : idxB P L = r
  have HR := hid hr
  clear hK hc hr
  go_enter Tryz.func108, Tryz.ntmps108
  go_wp2_with fail
  go_loopw [8] (fun i wr => ∃ k : Nat, k ≤ L.length ∧ i = .int .i64 k ∧ Hid (∀ j (h : j < L.length), j < k → P L[j] = false) ∧ Hid (Below w.heap.size w wr)) (fun i _ => L.length - (intOf i).toNat)
  case atStart => exact ⟨0, Nat.zero_le _, rfl, hid (fun j _ hj => absurd hj (by omega)), hid (Below.refl _ _)⟩
  case round =>
    obtain ⟨k, hk, rfl, HA, HB⟩ := hrel
    by_cases hlt : k < L.length
    · have HP := hid (HK.out k hlt wr HB.out)
      have x0 := cell_below HB.out (HC.out k hlt).1
      have x1 := cell_below HB.out (HC.out k hlt).2
      have hkI : (k : Int) < (L.length : Int) := by omega
      have HLT := hid hlt
      have HF := hid (fun h => idxB_hit hlt HA.out h)
      have HN := hid (fun h => idxB_next hlt HA.out h)
      generalize hx : L[k] = x at *
      cases hp : P x
      · rw [hp] at HP
        have HN2 := hid (HN.out hp)
        clear hp hx hlt
        go_wp2_with fail
        refine HP.out.mono ?_
        rintro e w1 ⟨rfl, hb⟩
        have HB1 := hid (HB.out.trans (hb.mono HB.out.size))
        clear hb
        go_wp2_with fail
        go_roundw
        case rel => exact ⟨k + 1, by have := HLT.out; omega, by go_num, HN2, HB1⟩
        case measure => have := HLT.out; simp [intOf]; omega
      · rw [hp] at HP
        have HF2 := hid (HF.out hp)
        clear hp hx hlt
        go_wp2_with fail
        refine HP.out.mono ?_
        rintro e w1 ⟨rfl, hb⟩
        have HB1 := hid (HB.out.trans (hb.mono HB.out.size))
        clear hb
        go_wp2_with fail
        go_ret
        exact ⟨by rw [← HR.out, HF2.out]; rfl, HB1.out⟩
    · have HF := hid (idxB_not (P := P) (L := L) (fun j hj => HA.out j hj (by omega)))
      go_wp2_with fail
      go_ret
      exact ⟨by rw [← HR.out, HF.out]; rfl, HB.out⟩
theorem idxM_none (K : Nat) (cb : Array Value) (a : Option Addr) (c : Nat) (w : World) :
    Calls Tryz.prog 108 #[.slice a 0 c, .func (.func K) #[] cb] w fun e w' => e = .returned (.int .i64 (-1)) ∧ Below w.heap.size w w' := by
  go_enter Tryz.func108, Tryz.ntmps108
  go_wp2_with fail
  go_loopw [8] (fun i wr => i = .int .i64 0 ∧ wr = w) (fun i _ => 0)
  case atStart => exact ⟨rfl, rfl⟩
  case round =>
    obtain ⟨rfl, rfl⟩ := hrel
    go_wp2_with fail
    go_ret
    exact ⟨rfl, Below.refl _ _⟩
theorem idxM_any (K : Nat) (cb : Array Value) (P : Bm → Bool) (L : List Bm) (v : Value) (w : World) (eg : ∀ args w, (callFunc K args).run Tryz.prog w = .ok (.enter K args) w) (hL : L.length ≤ 1000000) (hv : MsAt w v L)
    (hK : ∀ i (h : i < L.length) W, Below w.heap.size w W → Calls Tryz.prog K (#[.agg #[.string L[i].1, .string L[i].2]] ++ cb) W fun e w' => e = .returned (.bool (P L[i])) ∧ Below W.heap.size W w') :
    Calls Tryz.prog 108 #[v, .func (.func K) #[] cb] w fun e w' => e = .returned (.int .i64 (idxB P L)) ∧ Below w.heap.size w w' := by
  obtain ⟨a, c, rfl, _, h⟩ := hv
  cases L with
  | nil => exact idxM_none K cb a c w
  | cons x r =>
    obtain ⟨b, o, rfl, h2⟩ := h (by simp)
    exact idxM_some K cb P (x :: r) b o c w eg hL h2 hK
set_option maxHeartbeats 1000000 in
theorem hasM_any (K : Nat) (cb : Array Value) (P : Bm → Bool) (L : List Bm) (v : Value) (w : World) (eg : ∀ args w, (callFunc K args).run Tryz.prog w = .ok (.enter K args) w) (hL : L.length ≤ 1000000) (hv : MsAt w v L)
    (hK : ∀ i (h : i < L.length) W, Below w.heap.size w W → Calls Tryz.prog K (#[.agg #[.string L[i].1, .string L[i].2]] ++ cb) W fun e w' => e = .returned (.bool (P L[i])) ∧ Below W.heap.size W w') :
    Calls Tryz.prog 70 #[v, .func (.func K) #[] cb] w fun e w' => e = .returned (.bool (L.any P)) ∧ Below w.heap.size w w' := by
  obtain ⟨va, vn, vc, hv1⟩ := hv.slice
  have HI := hid (idxM_any K cb P L v w eg hL hv hK)
  have HX := hid (show decide (0 ≤ idxB P L) = L.any P by
    unfold idxB
    cases h : L.any P
    · simp
    · simp)
  generalize L.any P = z at *
  generalize idxB P L = x at *
  subst hv1
  clear hK hv eg
  by_cases h0 : 0 ≤ x
  · go_enter Tryz.func70, Tryz.ntmps70
    go_wp2_with fail
    refine HI.out.mono ?_
    rintro e w1 ⟨rfl, hb⟩
    have HB := hid hb
    clear hb
    go_wp2_with fail
    go_ret
    exact ⟨ret_bool (by rw [← HX.out]; simp [h0]), HB.out⟩
  · go_enter Tryz.func70, Tryz.ntmps70
    go_wp2_with fail
    refine HI.out.mono ?_
    rintro e w1 ⟨rfl, hb⟩
    have HB := hid hb
    clear hb
    go_wp2_with fail
    go_ret
    exact ⟨ret_bool (by rw [← HX.out]), HB.out⟩
theorem hasV_none {B : List Bm} {m : Bm} (h : ∀ x, x ∈ B → decide (x.1 = m.1) = false) : hasV B m = false := by
  unfold hasV atP
  rw [List.find?_eq_none.2 (fun x hx => by rw [h x hx]; simp)]
theorem hasV_some {B : List Bm} {m : Bm} {k : Nat} (hk : k < B.length) (h1 : decide (B[k].1 = m.1) = true) (h2 : ∀ j (hj : j < B.length), j < k → decide (B[j].1 = m.1) = false) : hasV B m = !lessB (vb B[k]) (vb m) := by
  unfold hasV atP
  have : B.find? (fun x => decide (x.1 = m.1)) = some B[k] := by
    rw [List.find?_eq_some_iff_getElem]
    exact ⟨h1, k, hk, rfl, fun j hj => by rw [h2 j (by omega) hj]; rfl⟩
  rw [this]
end Ve
end Go.Proofs.YtjhiajeeijfkeaaGreatDoor

/-
  What above of package down answers: which entries are above a cap; nothing old in memory turns.
-/
namespace Go.Proofs.YtjhiajeeijfkeaaGreatDoor
open Go.RowKit
namespace Ve

/-- Is a cap one that a module is above? -/
def capK (m c : Bm) : Bool := decide (c.1 = m.1) && (decide (vb c = noneL) || lessB (vb c) (vb m))
theorem capK_any {caps : List Bm} (h : rising caps) (m : Bm) : caps.any (capK m) = capB caps m := by
  cases hc : capB caps m with
  | false =>
    cases ha : caps.any (capK m) with
    | false => rfl
    | true =>
      obtain ⟨c, h1, h2⟩ := List.any_eq_true.1 ha
      unfold capK at h2
      rw [Bool.and_eq_true, decide_eq_true_iff] at h2
      have h3 := atP_rising h h1
      rw [h2.1] at h3
      rw [capB_at h3, h2.2] at hc
      cases hc
  | true =>
    unfold capB at hc
    cases ha : atP caps m.1 with
    | none => rw [ha] at hc; cases hc
    | some c =>
      rw [ha] at hc
      have h1 : c ∈ caps := List.mem_of_find?_eq_some ha
      have h2 : c.1 = m.1 := by have := List.find?_some ha; simpa using this
      refine List.any_eq_true.2 ⟨c, h1, ?_⟩
      unfold capK
      rw [Bool.and_eq_true]
      exact ⟨decide_eq_true h2, hc⟩
set_option maxHeartbeats 1000000 in
theorem abK_any (c m : Bm) (b : Nat) (A : Nat → Addr) (ml : Int) (W : World) (hc : c.2.size < 999999) (hm : m.2.size < 999999) (S : Te W A ml) (h0 : W.cell? ⟨b, 0, none⟩ = some (.string m.1)) (h1 : W.cell? ⟨b, 1, none⟩ = some (.string m.2)) :
    Calls Tryz.prog 71 (#[.agg #[.string c.1, .string c.2]] ++ #[.pointer (some ⟨b, 0, none⟩)]) W fun e w' => e = .returned (.bool (capK m c)) ∧ Below W.heap.size W w' := by
  obtain ⟨p, v⟩ := c
  obtain ⟨q, u⟩ := m
  simp only at h0 h1 hc hm
  show Calls Tryz.prog 71 #[.agg #[.string p, .string v], .pointer (some ⟨b, 0, none⟩)] W _
  have HB0 := hid ((Below.refl W.heap.size W).alloc (Nat.le_refl _) (.cells #[.string p, .string v] 36))
  have c0 := cell_below HB0.out h0
  have c1 := cell_below HB0.out h1
  have HL := hid (less_any v u (A 0) (A 1) ml _ hc hm (S.below HB0.out).vs)
  have hbb : ¬ b = W.heap.size := by have := lt_of_cell h0; simp at this; omega
  have hbb2 : ¬ W.heap.size = b := fun h => hbb h.symm
  obtain ⟨z, hz⟩ : ∃ z, capK (q, u) (p, v) = z := ⟨_, rfl⟩
  have HZ := hid hz
  rw [hz]
  clear hz S h0 h1
  by_cases h : p = q
  · subst h
    have he := str_refl p
    by_cases hn : v.data.toList = noneL
    · have hq : (v.toList == [110, 111, 110, 101]) = true := by rw [ByteArray.toList_eq]; exact beq_iff_eq.2 hn
      have HD := hid (show capK (p, u) (p, v) = true by unfold capK vb; simp [hn])
      clear hn
      go_enter Tryz.func71, Tryz.ntmps71
      go_wp2_with fail
      go_ret
      exact ⟨ret_bool (by rw [← HZ.out, HD.out]), HB0.out⟩
    · have hq : (v.toList == [110, 111, 110, 101]) = false := by rw [ByteArray.toList_eq]; exact beq_eq_false_iff_ne.2 hn
      have HD := hid (show capK (p, u) (p, v) = lessB v.data.toList u.data.toList by unfold capK vb; simp [hn])
      clear hn
      generalize lessB v.data.toList u.data.toList = y at *
      go_enter Tryz.func71, Tryz.ntmps71
      go_wp2_with fail
      refine HL.out.mono ?_
      rintro e w1 ⟨rfl, hb⟩
      have HB := hid (HB0.out.trans (hb.mono HB0.out.size))
      clear hb
      go_wp2_with fail
      go_ret
      exact ⟨ret_bool (by rw [← HZ.out, HD.out]), HB.out⟩
  · have he := str_ne h
    have HD := hid (show capK (q, u) (p, v) = false by unfold capK; simp [h])
    clear h
    go_enter Tryz.func71, Tryz.ntmps71
    go_wp2_with fail
    go_ret
    exact ⟨ret_bool (by rw [← HZ.out, HD.out]), HB0.out⟩
/-- Marks in a block of their own. -/
structure Mb (w W : World) (g : Nat) (O : List Bool) : Prop where
  bl : Below w.heap.size w W
  lo : w.heap.size ≤ g
  hp : W.heap[g]? = some (.cells (bwc O) 4 (0, 0))
theorem Mb.below {w W W' : World} {g : Nat} {O : List Bool} (h : Mb w W g O) (hb : Below W.heap.size W W') : Mb w W' g O :=
  ⟨h.bl.trans (hb.mono h.bl.size), h.lo, (hb.block _ (lt_of_blk h.hp)).trans h.hp⟩
theorem bwc_put (O : List Bool) (a : Nat) (b : Bool) : (bwc O).setIfInBounds a (.bool b) = bwc (O.set a b) := by
  unfold bwc
  rw [List.setIfInBounds_toArray, List.map_set]
theorem Mb.set {w W : World} {g : Nat} {O : List Bool} (h : Mb w W g O) (a : Nat) (b : Bool) : Mb w (W.setCell ⟨g, a, none⟩ (.bool b)) g (O.set a b) :=
  ⟨h.bl.setCell (p := ⟨g, a, none⟩) h.lo _, h.lo, by rw [set_block h.hp, bwc_put]⟩
theorem Mb.at {w W : World} {g : Nat} {O : List Bool} (h : Mb w W g O) {a : Nat} (ha : a < O.length) : W.cell? ⟨g, a, none⟩ = some (.bool O[a]) ∧ ∀ o, W.frozen? ⟨g, o, none⟩ = false :=
  ⟨bwc_at h.hp ha, fun o => Lib.frozen_of_heap h.hp o⟩
set_option maxRecDepth 100000 in
set_option maxHeartbeats 4000000 in
/-- down.above. -/
theorem above_any (Q : List Raw) (caps : List Bm) (v cv : Value) (A : Nat → Addr) (m : Int) (w : World) (hL : Q.length ≤ 1000000) (hC : caps.length ≤ 1000000) (hz : ∀ r, r ∈ Q → r.1.2.size < 999999) (hcz : ∀ c, c ∈ caps → c.2.size < 999999) (hri : rising caps) (S : Te w A m) (hv : EsAt w v Q) (hc : MsAt w cv caps) :
    Calls Tryz.prog 42 #[v, cv] w fun e w' => e = .returned (.slice (some ⟨w.heap.size, 0, none⟩) Q.length Q.length) ∧ Mb w w' w.heap.size (Q.map fun r => capB caps r.1) := by
  have eg : ∀ args w, (callFunc 71 args).run Tryz.prog w = .ok (.enter 71 args) w := enters_of Tryz.func71 (by kernel_rfl) rfl
  have HHA := hid (fun (x : Bm) (b : Nat) W (h : Below w.heap.size w W) (hx : x.2.size < 999999) (h0 : W.cell? ⟨b, 0, none⟩ = some (.string x.1)) (h1 : W.cell? ⟨b, 1, none⟩ = some (.string x.2)) =>
    (hasM_any 71 #[.pointer (some ⟨b, 0, none⟩)] (capK x) caps cv W eg hC (hc.below h) (fun i hi W' hW => abK_any caps[i] x b A m W' (hcz _ (List.getElem_mem hi)) hx ((S.below h).below hW) (cell_below hW h0) (cell_below hW h1))).mono fun e w' h => show e = .returned (.bool (capB caps x)) ∧ _ from ⟨by rw [← capK_any hri]; exact h.1, h.2⟩)
  have HES := hid (fun W (h : Below w.heap.size w W) => hv.below h)
  have HZ := hid hz
  have hmk := make_bools Q.length w hL
  have HM0 := hid (show Mb w (w.alloc (.cells (bwc (List.replicate Q.length false)) 4)) w.heap.size (List.replicate Q.length false) from ⟨(Below.refl w.heap.size w).alloc (Nat.le_refl _) _, Nat.le_refl _, heap_new w _⟩)
  obtain ⟨a, c, hv1, -⟩ := id hv
  subst hv1
  obtain ⟨ca, cn, cc, hc1⟩ := hc.slice
  subst hc1
  clear hv hc S hz hcz hri eg
  go_enter Tryz.func42, Tryz.ntmps42
  go_wp2_with fail
  clear hmk
  go_loopw [13] (fun iv wr => ∃ i : Nat, i ≤ Q.length ∧ iv = .int .i64 i ∧ Hid (∃ O, Mb w wr w.heap.size O ∧ O.length = Q.length ∧ ∀ j (h : j < Q.length) (h' : j < O.length), j < i → O[j] = capB caps Q[j].1)) (fun iv _ => Q.length - (intOf iv).toNat)
  case atStart => exact ⟨0, Nat.zero_le _, rfl, hid ⟨_, HM0.out, by simp, fun j _ _ h => absurd h (Nat.not_lt_zero _)⟩⟩
  case round =>
    obtain ⟨i, hi, rfl, HO⟩ := hrel
    obtain ⟨O, hO, hOl, hAt⟩ := HO.out
    by_cases hlt : i < Q.length
    · have hiI : (i : Int) < (Q.length : Int) := by omega
      have hii : (0 : Int) ≤ (i : Int) := by omega
      have HLI := hid hlt
      have hes := HES.out _ hO.bl
      obtain ⟨b, o, hab⟩ : ∃ b o, a = some ⟨b, o, none⟩ := by
        obtain ⟨a', c', e, _, _, h⟩ := hes
        injection e with q1 q2 q3
        obtain ⟨b, o, h4, _⟩ := h (fun h => by rw [h] at hlt; simp at hlt)
        exact ⟨b, o, by rw [q1, h4]⟩
      subst hab
      obtain ⟨hsl, x0, x1, x2, x3, x4⟩ := es_all hes hlt
      have hzx := HZ.out Q[i] (List.getElem_mem hlt)
      have hiO : i < O.length := by omega
      have HNX := hid (fun W (hb : Below wr.heap.size wr W) => show ∃ O', Mb w (W.setCell ⟨w.heap.size, i, none⟩ (.bool (capB caps Q[i].1))) w.heap.size O' ∧ O'.length = Q.length ∧ ∀ j (h : j < Q.length) (h' : j < O'.length), j < i + 1 → O'[j] = capB caps Q[j].1 from ⟨O.set i (capB caps Q[i].1), (hO.below hb).set i _, by rw [List.length_set]; exact hOl, fun j h1 h2 h3 => by
        rw [List.getElem_set]
        by_cases e : i = j
        · subst e; rw [if_pos rfl]; rfl
        · rw [if_neg e]; exact hAt j h1 (by omega) (by omega)⟩)
      have HCE := hid (fun W (hb : Below wr.heap.size wr W) => (hO.below hb).at hiO)
      have HBL := hid hO.bl
      generalize (O[i]'hiO) = bo at *
      generalize Q[i] = x at *
      obtain ⟨⟨p, q⟩, rv, pv, bk⟩ := x
      obtain ⟨⟨ra, rn, rc, hrv⟩, pa, pn, pc, hpv⟩ := hsl
      simp only at hrv hpv x0 x1 x2 x3 x4 hzx
      subst hrv
      subst hpv
      have HBa := hid ((Below.refl wr.heap.size wr).alloc (Nat.le_refl _) (.cells #[.string p, .string q, .slice ra rn rc, .slice pa pn pc, .bool bk] 55))
      have HHX := hid (HHA.out (p, q) wr.heap.size (wr.alloc (.cells #[.string p, .string q, .slice ra rn rc, .slice pa pn pc, .bool bk] 55)) (HBL.out.trans (HBa.out.mono HBL.out.size)) hzx (by simp) (by simp))
      obtain ⟨z, hz⟩ : ∃ z, capB caps (p, q) = z := ⟨_, rfl⟩
      rw [hz] at HHX HNX
      clear hlt hes hO hOl hAt HO hiO hz hzx
      go_wp2_with fail
      refine HHX.out.mono ?_
      rintro e w1 ⟨rfl, hb⟩
      have HB1 := hid (HBa.out.trans (hb.mono HBa.out.size))
      obtain ⟨z0, zf⟩ := HCE.out w1 HB1.out
      have HN2 := hid (HNX.out w1 HB1.out)
      clear hb
      go_wp2_with fail
      go_roundw
      case rel => first | exact ⟨i + 1, HLI.out, nr_idx i, HN2⟩ | exact ⟨i + 1, HLI.out, nx_idx HLI.out hL, HN2⟩
      case measure => first | exact nr_meas HLI.out | exact nx_meas HLI.out hL
    · have hiI : ¬ (i : Int) < (Q.length : Int) := by omega
      have HE := hid (show Mb w wr w.heap.size (Q.map fun r => capB caps r.1) by
        have : O = Q.map fun r => capB caps r.1 := List.ext_getElem (by simp [hOl]) fun j h1 h2 => by
          rw [List.getElem_map]
          exact hAt j (by omega) h1 (by omega)
        rw [← this]; exact hO)
      clear hlt hO hOl hAt HO
      go_wp2_with fail
      go_ret
      exact ⟨rfl, HE.out⟩
end Ve
end Go.Proofs.YtjhiajeeijfkeaaGreatDoor

/-
  What slices.IndexFunc and slices.ContainsFunc answer over places; the closure of spread: is a place marked?
-/
namespace Go.Proofs.YtjhiajeeijfkeaaGreatDoor
open Go.RowKit
namespace Ve

/-- A slice of places. -/
def IaAt (w : World) (v : Value) (P : List Nat) : Prop := ∃ a c, v = .slice a P.length c ∧ (P ≠ [] → ∃ b o, a = some ⟨b, o, none⟩ ∧ ∀ j (h : j < P.length), w.cell? ⟨b, o + j, none⟩ = some (.int .i64 (P[j] : Int)))
theorem IaAt.below {w W : World} {v : Value} {P : List Nat} (h : IaAt w v P) (hb : Below w.heap.size w W) : IaAt W v P := by
  obtain ⟨a, c, rfl, h1⟩ := h
  refine ⟨a, c, rfl, fun hP => ?_⟩
  obtain ⟨b, o, rfl, h2⟩ := h1 hP
  exact ⟨b, o, rfl, fun j hj => cell_below hb (h2 j hj)⟩
theorem IaAt.slice {w : World} {v : Value} {P : List Nat} (h : IaAt w v P) : ∃ a c, v = .slice a P.length c := by
  obtain ⟨a, c, e, _⟩ := h
  exact ⟨a, c, e⟩
set_option maxHeartbeats 2000000 in
set_option maxRecDepth 100000 in
theorem idxI_some (K : Nat) (cb : Array Value) (B : Nat → Bool) (P : List Nat) (b o c : Nat) (w : World) (eg : ∀ args w, (callFunc K args).run Tryz.prog w = .ok (.enter K args) w) (hL : P.length ≤ 1000000)
    (hc : ∀ j (h : j < P.length), w.cell? ⟨b, o + j, none⟩ = some (.int .i64 (P[j] : Int)))
    (hK : ∀ i (h : i < P.length) W, Below w.heap.size w W → Calls Tryz.prog K (#[.int .i64 (P[i] : Int)] ++ cb) W fun e w' => e = .returned (.bool (B P[i])) ∧ Below W.heap.size W w') :
    Calls Tryz.prog 111 #[.slice (some ⟨b, o, none⟩) P.length c, .func (.func K) #[] cb] w fun e w' => (∃ r : Int, e = .returned (.int .i64 r) ∧ decide (0 ≤ r) = P.any B) ∧ Below w.heap.size w w' := by
  have HK := hid hK
  have HC := hid hc
  clear hK hc
  go_enter Tryz.func111, Tryz.ntmps111
  go_wp2_with fail
  go_loopw [8] (fun i wr => ∃ k : Nat, k ≤ P.length ∧ i = .int .i64 k ∧ Hid (∀ j (h : j < P.length), j < k → B P[j] = false) ∧ Hid (Below w.heap.size w wr)) (fun i _ => P.length - (intOf i).toNat)
  case atStart => exact ⟨0, Nat.zero_le _, rfl, hid (fun j _ hj => absurd hj (Nat.not_lt_zero _)), hid (Below.refl _ _)⟩
  case round =>
    obtain ⟨k, hk, rfl, HA, HB⟩ := hrel
    by_cases hlt : k < P.length
    · have HP := hid (HK.out k hlt wr HB.out)
      have x0 := cell_below HB.out (HC.out k hlt)
      have hkI : (k : Int) < (P.length : Int) := by omega
      have hk0 : (0 : Int) ≤ (k : Int) := by omega
      have HLT := hid hlt
      have HF := hid (show B P[k] = true → P.any B = true from fun h => List.any_eq_true.2 ⟨P[k], List.getElem_mem hlt, h⟩)
      have HN := hid (show B P[k] = false → ∀ j (h : j < P.length), j < k + 1 → B P[j] = false from fun h j hj hjk => by
        rcases Nat.lt_or_ge j k with h1 | h1
        · exact HA.out j hj h1
        · have : j = k := by omega
          subst this; exact h)
      generalize hx : P[k] = x at *
      cases hp : B x
      · rw [hp] at HP
        have HN2 := hid (HN.out hp)
        clear hp hx hlt
        go_wp2_with fail
        refine HP.out.mono ?_
        rintro e w1 ⟨rfl, hb⟩
        have HB1 := hid (HB.out.trans (hb.mono HB.out.size))
        clear hb
        go_wp2_with fail
        go_roundw
        case rel => first | exact ⟨k + 1, HLT.out, nr_idx k, HN2, HB1⟩ | exact ⟨k + 1, HLT.out, nx_idx HLT.out hL, HN2, HB1⟩
        case measure => first | exact nr_meas HLT.out | exact nx_meas HLT.out hL
      · rw [hp] at HP
        have HF2 := hid (HF.out hp)
        clear hp hx hlt
        go_wp2_with fail
        refine HP.out.mono ?_
        rintro e w1 ⟨rfl, hb⟩
        have HB1 := hid (HB.out.trans (hb.mono HB.out.size))
        clear hb
        go_wp2_with fail
        go_ret
        exact ⟨⟨_, rfl, by rw [HF2.out]; exact decide_eq_true (Int.natCast_nonneg _)⟩, HB1.out⟩
    · have HF := hid (show P.any B = false by
        cases h : P.any B
        · rfl
        · obtain ⟨x, hx, h1⟩ := List.any_eq_true.1 h
          obtain ⟨j, hj, rfl⟩ := List.getElem_of_mem hx
          rw [HA.out j hj (by omega)] at h1; cases h1)
      have hkI : ¬ (k : Int) < (P.length : Int) := by omega
      clear hlt
      go_wp2_with fail
      go_ret
      exact ⟨⟨_, rfl, by rw [HF.out]; rfl⟩, HB.out⟩
theorem idxI_none (K : Nat) (cb : Array Value) (a : Option Addr) (c : Nat) (w : World) :
    Calls Tryz.prog 111 #[.slice a 0 c, .func (.func K) #[] cb] w fun e w' => (∃ r : Int, e = .returned (.int .i64 r) ∧ decide (0 ≤ r) = false) ∧ Below w.heap.size w w' := by
  go_enter Tryz.func111, Tryz.ntmps111
  go_wp2_with fail
  go_loopw [8] (fun i wr => i = .int .i64 0 ∧ wr = w) (fun i _ => 0)
  case atStart => exact ⟨rfl, rfl⟩
  case round =>
    obtain ⟨rfl, rfl⟩ := hrel
    go_wp2_with fail
    go_ret
    exact ⟨⟨_, rfl, rfl⟩, Below.refl _ _⟩
theorem idxI_any (K : Nat) (cb : Array Value) (B : Nat → Bool) (P : List Nat) (v : Value) (w : World) (eg : ∀ args w, (callFunc K args).run Tryz.prog w = .ok (.enter K args) w) (hL : P.length ≤ 1000000) (hv : IaAt w v P)
    (hK : ∀ i (h : i < P.length) W, Below w.heap.size w W → Calls Tryz.prog K (#[.int .i64 (P[i] : Int)] ++ cb) W fun e w' => e = .returned (.bool (B P[i])) ∧ Below W.heap.size W w') :
    Calls Tryz.prog 111 #[v, .func (.func K) #[] cb] w fun e w' => (∃ r : Int, e = .returned (.int .i64 r) ∧ decide (0 ≤ r) = P.any B) ∧ Below w.heap.size w w' := by
  obtain ⟨a, c, rfl, h⟩ := hv
  cases P with
  | nil => exact idxI_none K cb a c w
  | cons x r =>
    obtain ⟨b, o, rfl, h2⟩ := h (by simp)
    exact idxI_some K cb B (x :: r) b o c w eg hL h2 hK
set_option maxHeartbeats 1000000 in
theorem hasI_any (K : Nat) (cb : Array Value) (B : Nat → Bool) (P : List Nat) (v : Value) (w : World) (eg : ∀ args w, (callFunc K args).run Tryz.prog w = .ok (.enter K args) w) (hL : P.length ≤ 1000000) (hv : IaAt w v P)
    (hK : ∀ i (h : i < P.length) W, Below w.heap.size w W → Calls Tryz.prog K (#[.int .i64 (P[i] : Int)] ++ cb) W fun e w' => e = .returned (.bool (B P[i])) ∧ Below W.heap.size W w') :
    Calls Tryz.prog 75 #[v, .func (.func K) #[] cb] w fun e w' => e = .returned (.bool (P.any B)) ∧ Below w.heap.size w w' := by
  obtain ⟨va, vc, hv1⟩ := hv.slice
  have HI := hid (idxI_any K cb B P v w eg hL hv hK)
  obtain ⟨z, hz⟩ : ∃ z, P.any B = z := ⟨_, rfl⟩
  rw [hz] at HI ⊢
  subst hv1
  clear hK hv eg hz
  go_enter Tryz.func75, Tryz.ntmps75
  go_wp2_with fail
  refine HI.out.mono ?_
  rintro e w1 ⟨⟨r, rfl, hr⟩, hb⟩
  have HB := hid hb
  have HR := hid hr
  clear hb hr
  go_wp2_with fail
  go_ret
  exact ⟨ret_bool HR.out, HB.out⟩
set_option maxHeartbeats 1000000 in
theorem spK_any (O : List Bool) (k g b n c : Nat) (W : World) (hk : k < O.length) (hn : O.length ≤ n) (h1 : W.cell? ⟨b, 0, none⟩ = some (.slice (some ⟨g, 0, none⟩) n c)) (hg : W.heap[g]? = some (.cells (bwc O) 4 (0, 0))) :
    Calls Tryz.prog 73 (#[.int .i64 (k : Int)] ++ #[.pointer (some ⟨b, 0, none⟩)]) W fun e w' => e = .returned (.bool (O[k]?.getD false)) ∧ Below W.heap.size W w' := by
  show Calls Tryz.prog 73 #[.int .i64 (k : Int), .pointer (some ⟨b, 0, none⟩)] W _
  have h2 := bwc_at hg hk
  have HX := hid (show O[k]?.getD false = O[k] by rw [List.getElem?_eq_getElem hk]; rfl)
  rw [HX.out]
  generalize O[k] = z at *
  have hkI : (k : Int) < (n : Int) := by omega
  have hk0 : (0 : Int) ≤ (k : Int) := by omega
  clear hg hk hn HX
  go_enter Tryz.func73, Tryz.ntmps73
  go_wp2_with fail
  go_ret
  exact ⟨rfl, Below.refl _ _⟩
end Ve
end Go.Proofs.YtjhiajeeijfkeaaGreatDoor

/-
  What required of package down answers: of each entry the places of what it requires; nothing old in memory turns.
-/
namespace Go.Proofs.YtjhiajeeijfkeaaGreatDoor
open Go.RowKit
namespace Ve

theorem infoIntD : (Tryz.prog.info? 3).map (fun i => (i.zero, i.size, i.bytes)) = some (some (.int .i64 0), 1, 8) := by kernel_rfl
theorem infoInts : (Tryz.prog.info? 110).map (fun i => (i.zero, i.size, i.bytes)) = some (some (.slice none 0 0), 1, 24) := by kernel_rfl
theorem made_slices (n : Nat) : madeCells (Value.slice none 0 0).cells n = (List.replicate n (Value.slice none 0 0)).toArray := by
  unfold madeCells
  simp [Value.cells]
  apply Array.ext
  · simp
  · intro i h1 h2
    simp [Nat.mod_one]
theorem make_slices (n : Nat) (w : World) (hn : n ≤ 1000000) : (Instr.makeSlice 83 (.int .i64 (n : Int)) (.int .i64 (n : Int))).run Tryz.prog w = .ok (.slice (some ⟨w.heap.size, 0, none⟩) n n) (w.alloc (.cells (List.replicate n (Value.slice none 0 0)).toArray 110)) := by
  obtain ⟨i0, hi, hz0, hz1, hz2⟩ := info_parts infoInts
  have h := run_makeSlice (P := Tryz.prog) w 83 110 i0 (.slice none 0 0) Tryz.underlying83 hi hz0 .i64 .i64 (n : Int) (n : Int) (by omega) (by omega) (by rw [hz1]; simp; omega) (by rw [hz2]; omega) (by omega)
  rw [hz1] at h
  simp only [Int.toNat_natCast, Nat.mul_one] at h
  rw [made_slices] at h
  exact h
/-- Places as values. -/
def plV (P : List Nat) : List Value := P.map fun (k : Nat) => Value.int .i64 (k : Int)
theorem plV_app (P : List Nat) (k : Nat) : plV (P ++ [k]) = plV P ++ [.int .i64 (k : Int)] := by simp [plV]
theorem own_ia {W : World} {B : Nat} {v : Value} {P : List Nat} (h : W.ownsRow B 3 1 v P.length (plV P)) : IaAt W v P := by
  obtain ⟨_, ⟨hv, hn0⟩ | ⟨g, cap, cur, hv, hg, hblk, hcap, hcm, hcs, hct⟩⟩ := h
  · exact ⟨none, 0, by rw [hv, hn0], fun hP => absurd (List.length_eq_zero_iff.1 hn0) hP⟩
  · refine ⟨_, cap, hv, fun _ => ⟨g, 0, rfl, fun j hj => ?_⟩⟩
    have h1 : (plV P)[j]? = some (.int .i64 (P[j] : Int)) := by simp [plV, hj]
    rw [← hct, List.getElem?_take, if_pos (by omega)] at h1
    simp only [World.cell?, hblk]
    rw [Nat.zero_add, ← h1]; simp
theorem own_neK {w : World} {B k : Nat} {e T : TypeId} {v : Value} {n : Nat} {xs : List Value} {b : Nat} {cs : Array Value} {fr : Nat × Nat} (hown : w.ownsRow B e k v n xs) (hb : w.heap[b]? = some (.cells cs T fr)) (hTe : T ≠ e) : v.ownBlock ≠ some b := by
  rcases hown.2 with ⟨rfl, _⟩ | ⟨g, cap, cur, rfl, _, hg, _⟩
  · simp [Value.ownBlock]
  · intro h
    simp only [Value.ownBlock, Option.some.injEq] at h
    subst h
    rw [hg] at hb
    simp at hb
    exact hTe hb.2.1.symm
theorem gr_below {A B C : World} {row : Option Nat} (h : A.grownBy B row) (k : Below B.heap.size B C) : A.grownBy C row :=
  ⟨k.os.trans h.os, k.tape.trans h.tape, k.output.trans h.output, Nat.le_trans h.size k.size, fun b hb hne => (k.block b (Nat.lt_of_lt_of_le hb h.size)).trans (h.block b hb hne)⟩
theorem gr_far {A B C : World} {row : Option Nat} {r2 : Option Nat} (h : A.grownBy B row) (k : B.grownBy C r2) (hr : ∀ g, r2 = some g → A.heap.size ≤ g) : A.grownBy C row :=
  ⟨k.os.trans h.os, k.tape.trans h.tape, k.output.trans h.output, Nat.le_trans h.size k.size, fun b hb hne => (k.block b (Nat.lt_of_lt_of_le hb h.size) (fun e => by have := hr b e.symm; omega)).trans (h.block b hb hne)⟩
theorem gr_set {A B : World} {g o : Nat} {x : Value} (h : A.grownBy B (some g)) : A.grownBy (B.setCell ⟨g, o, none⟩ x) (some g) :=
  ⟨h.os, h.tape, h.output, by simp [World.setCell]; exact h.size, fun b hb hne => (Below.heap_setCell _ _ _ _ (fun e => hne (by rw [e]))).trans (h.block b hb hne)⟩
theorem gr_self (W : World) (row : Option Nat) : W.grownBy W row := ⟨rfl, rfl, rfl, Nat.le_refl _, fun _ _ _ => rfl⟩
/-- Places in another block stay. -/
theorem IaAt.grown {W W' : World} {g : Nat} {v : Value} {P : List Nat} {vs : List Value} {T : TypeId} (h : IaAt W v P) (hg : W.heap[g]? = some (.cells vs.toArray T (0, 0))) (hs : ∀ x, x ∈ vs → ∃ a n c, x = .slice a n c) (k : W.grownBy W' (some g)) : IaAt W' v P := by
  obtain ⟨a, c, rfl, h1⟩ := h
  refine ⟨a, c, rfl, fun hP => ?_⟩
  obtain ⟨b, o, rfl, h2⟩ := h1 hP
  refine ⟨b, o, rfl, fun j hj => ?_⟩
  have h3 := h2 j hj
  have hne : b ≠ g := fun e => by
    subst e
    rw [Lib.cell_of_heap hg] at h3
    have h4 : vs[o + j]? = some (.int .i64 (P[j] : Int)) := by simpa using h3
    obtain ⟨a, n, c, e⟩ := hs _ (List.mem_of_getElem? h4)
    cases e
  rw [World.cell?_of_block (k.block b (lt_of_cell h3) (by simpa using hne))]
  exact h3
/-- The rows of places in memory. -/
structure Nv (W : World) (g : Nat) (vs : List Value) (NV : List (List Nat)) : Prop where
  hp : W.heap[g]? = some (.cells vs.toArray 110 (0, 0))
  ln : vs.length = NV.length
  sl : ∀ x, x ∈ vs → ∃ a n c, x = .slice a n c
  ia : ∀ j (h : j < vs.length) (h' : j < NV.length), IaAt W vs[j] NV[j]
/-- The same, made up to an entry. -/
structure Nw (w W : World) (g : Nat) (vs : List Value) (NV : List (List Nat)) (i : Nat) : Prop where
  bl : Below w.heap.size w W
  lo : w.heap.size ≤ g
  hp : W.heap[g]? = some (.cells vs.toArray 110 (0, 0))
  ln : vs.length = NV.length
  sl : ∀ x, x ∈ vs → ∃ a n c, x = .slice a n c
  ia : ∀ j (h : j < vs.length) (h' : j < NV.length), j < i → IaAt W vs[j] NV[j]
  ze : ∀ j (h : j < vs.length), i ≤ j → vs[j] = .slice none 0 0
theorem Nw.below {w W W' : World} {g i : Nat} {vs : List Value} {NV : List (List Nat)} (h : Nw w W g vs NV i) (hb : Below W.heap.size W W') : Nw w W' g vs NV i :=
  ⟨h.bl.trans (hb.mono h.bl.size), h.lo, (hb.block _ (lt_of_blk h.hp)).trans h.hp, h.ln, h.sl, fun j a b c => (h.ia j a b c).below hb, h.ze⟩
/-- One entry's places, as far as they are found. -/
structure Rq (W1 W : World) (g i : Nat) (vs : List Value) (P : List Nat) (v : Value) : Prop where
  gr : W1.grownBy W (some g)
  hp : W.heap[g]? = some (.cells (vs.set i v).toArray 110 (0, 0))
  ow : W.ownsRow W1.heap.size 3 1 v P.length (plV P)
theorem Rq.below {W1 W W' : World} {g i : Nat} {vs : List Value} {P : List Nat} {v : Value} (h : Rq W1 W g i vs P v) (hb : Below W.heap.size W W') : Rq W1 W' g i vs P v :=
  ⟨gr_below h.gr hb, (hb.block _ (lt_of_blk h.hp)).trans h.hp, owns_below h.ow hb⟩
theorem Rq.more {W1 W w3 w4 : World} {g i k : Nat} {vs : List Value} {P : List Nat} {v v' : Value} {o : Obj} (h : Rq W1 W g i vs P v) (hb : Below W.heap.size W w3) (hown : w4.ownsRow W1.heap.size 3 1 v' (P.length + 1) (plV P ++ [.int .i64 (k : Int)])) (hg : (w3.alloc o).grownBy w4 v.ownBlock) :
    Rq W1 (w4.setCell ⟨g, i, none⟩ v') g i vs (P ++ [k]) v' := by
  have h3 := (h.below hb).below ((Below.refl w3.heap.size w3).alloc (Nat.le_refl _) o)
  have hne : v.ownBlock ≠ some g := own_neK h3.ow h3.hp (by decide)
  have h4 : w4.heap[g]? = some (.cells (vs.set i v).toArray 110 (0, 0)) := (hg.block g (lt_of_blk h3.hp) (fun e => hne e.symm)).trans h3.hp
  refine ⟨gr_set (gr_far h3.gr hg (fun b e => (h3.ow.lt b e).1)), ?_, ?_⟩
  · rw [set_block h4, List.setIfInBounds_toArray, List.set_set]
  · rw [plV_app, List.length_append]
    exact own_setN hown h4 (by decide)
theorem Nw.next {w W1 W : World} {g i : Nat} {vs : List Value} {NV : List (List Nat)} {P : List Nat} {v : Value} (h : Nw w W1 g vs NV i) (r : Rq W1 W g i vs P v) (hP : ∀ (h' : i < NV.length), NV[i] = P) : Nw w W g (vs.set i v) NV (i + 1) := by
  have hsl : ∃ a n c, v = .slice a n c := by
    obtain ⟨_, ⟨e, _⟩ | ⟨g, cap, cur, e, _⟩⟩ := r.ow
    · exact ⟨_, _, _, e⟩
    · exact ⟨_, _, _, e⟩
  refine ⟨h.bl.grown r.gr h.bl.size (fun b e => by cases e; exact h.lo), h.lo, r.hp, by rw [List.length_set]; exact h.ln, fun x hx => ?_, fun j h1 h2 h3 => ?_, fun j h1 h2 => ?_⟩
  · rcases List.mem_or_eq_of_mem_set hx with hx | rfl
    · exact h.sl x hx
    · exact hsl
  · rw [List.getElem_set]
    by_cases e : i = j
    · subst e
      rw [if_pos rfl, hP h2]
      exact own_ia r.ow
    · rw [if_neg e]
      exact (h.ia j (by simpa using h1) h2 (by omega)).grown h.hp h.sl r.gr
  · rw [List.getElem_set, if_neg (by omega)]
    exact h.ze j (by simpa using h1) (by omega)
/-- The places of what each entry requires. -/
def nvL (Q : List Raw) (L : List Ent) : List (List Nat) := L.map fun e => e.2.1.map fun m => (idxOf (isM m) Q).toNat
theorem nvL_nd {w : World} {v : Value} {Q : List Raw} {L : List Ent} (I : Ixs w v Q L) (h : (chk Q L).1 = 0) : Nd (reqQ Q L) (univ L) (nvL Q L) := by
  have hU : (univ L).length = L.length := univ_len L
  refine ⟨by simp [nvL, univ], fun i hi hi' r hr => ?_, fun i hi hi' k hk => ?_⟩
  · obtain ⟨k, hk, e1, e2⟩ := idx_univ I (chk_reqs0 I h _ (List.getElem_mem hi) r hr)
    refine ⟨k, hk, ?_, e2⟩
    rw [req_at I h (by omega) hi] at hr
    simp only [nvL, List.getElem_map]
    exact List.mem_map.2 ⟨r, hr, by rw [e1]; rfl⟩
  · simp only [nvL, List.getElem_map] at hk
    obtain ⟨m, hm, rfl⟩ := List.mem_map.1 hk
    have hm2 : m ∈ reqQ Q L (univ L)[i] := by rw [req_at I h (by omega) hi]; exact hm
    obtain ⟨k, hk, e1, e2⟩ := idx_univ I (chk_reqs0 I h _ (List.getElem_mem hi) m hm2)
    rw [e1]
    exact ⟨hk, by simp only [Int.toNat_natCast]; rw [e2]; exact hm2⟩
set_option maxRecDepth 100000 in
set_option maxHeartbeats 4000000 in
/-- down.required. -/
theorem required_any (Q : List Raw) (L : List Ent) (v : Value) (w : World) (hn : L.length ≤ 1000) (sh : ∀ e, e ∈ L → ShE e) (I : Ixs w v Q L) (h0 : (chk Q L).1 = 0) :
    Calls Tryz.prog 43 #[v] w fun e w' => e = .returned (.slice (some ⟨w.heap.size, 0, none⟩) Q.length Q.length) ∧ ∃ vs, Nv w' w.heap.size vs (nvL Q L) ∧ Below w.heap.size w w' := by
  have hqn : Q.length ≤ 1000 := by rw [I.ln]; exact hn
  have HLN := hid I.ln
  have HI := hid (fun W (h : Below w.heap.size w W) => I.below h)
  have HFI := hid (fun (x : Bm) W (h : Below w.heap.size w W) => find_any Q x v W (by omega) (I.below h).es)
  have HSZ := hid (fun i (h : i < L.length) => (sh L[i] (List.getElem_mem h)).rn)
  have HK := hid (fun i (h : i < L.length) (m : Bm) (hm : m ∈ L[i].2.1) => show ∃ k : Nat, idxOf (isM m) Q = (k : Int) by
    have hi : i < (univ L).length := by rw [univ_len]; exact h
    obtain ⟨k, _, e, _⟩ := idx_univ I (chk_reqs0 I h0 _ (List.getElem_mem hi) m (by rw [req_at I h0 h hi]; exact hm))
    exact ⟨k, e⟩)
  have HNL := hid (show (nvL Q L).length = Q.length by rw [I.ln]; simp [nvL])
  have HNV := hid (fun i (h : i < L.length) (h' : i < (nvL Q L).length) => show (nvL Q L)[i] = L[i].2.1.map fun m => (idxOf (isM m) Q).toNat by simp [nvL])
  have hmk := make_slices Q.length w (by omega)
  have HN0 := hid (show Nw w (w.alloc (.cells (List.replicate Q.length (Value.slice none 0 0)).toArray 110)) w.heap.size (List.replicate Q.length (Value.slice none 0 0)) (nvL Q L) 0 from
    ⟨(Below.refl w.heap.size w).alloc (Nat.le_refl _) _, Nat.le_refl _, heap_new w _, by rw [HNL.out]; simp, fun x hx => ⟨none, 0, 0, (List.mem_replicate.1 hx).2⟩, fun j _ _ h => absurd h (Nat.not_lt_zero _), fun j _ _ => by simp⟩)
  obtain ⟨i0, hi0, hz0, hz1, hz2⟩ := info_parts infoIntD
  obtain ⟨a, c, hv1, -⟩ := id I.es
  subst hv1
  clear I sh h0 hn
  generalize nvL Q L = NV at *
  go_enter Tryz.func43, Tryz.ntmps43
  go_wp2_with fail
  clear hmk
  go_loopw [13] (fun iv wr => ∃ i : Nat, i ≤ Q.length ∧ iv = .int .i64 i ∧ Hid (∃ vs, Nw w wr w.heap.size vs NV i)) (fun iv _ => Q.length - (intOf iv).toNat)
  case atStart => exact ⟨0, Nat.zero_le _, rfl, hid ⟨_, HN0.out⟩⟩
  case round =>
    obtain ⟨i, hi, rfl, HO⟩ := hrel
    obtain ⟨vs, hN⟩ := HO.out
    by_cases hlt : i < Q.length
    · have hiI : (i : Int) < (Q.length : Int) := by omega
      have hii : (0 : Int) ≤ (i : Int) := by omega
      have HLI := hid hlt
      have hil : i < L.length := by rw [← HLN.out]; exact hlt
      have hiv : i < vs.length := by rw [hN.ln, HNL.out]; exact hlt
      have hin : i < NV.length := by rw [HNL.out]; exact hlt
      have hes := (HI.out _ hN.bl).es
      obtain ⟨b, o, hab⟩ : ∃ b o, a = some ⟨b, o, none⟩ := by
        obtain ⟨a', c', e, _, _, h⟩ := hes
        injection e with q1 q2 q3
        obtain ⟨b, o, h4, _⟩ := h (fun h => by rw [h] at hlt; simp at hlt)
        exact ⟨b, o, by rw [q1, h4]⟩
      subst hab
      obtain ⟨hsl, x0, x1, x2, x3, x4⟩ := es_all hes hlt
      have HMS := hid (fun W (h : Below w.heap.size w W) => ((HI.out W h).ok i hlt hil).rq)
      have hRl := HSZ.out i hil
      have HKR := hid (fun m hm => HK.out i hil m hm)
      have HNR := hid (HNV.out i hil hin)
      have HVI := hid (fun (h : i < vs.length) => hN.ze i h (Nat.le_refl _))
      generalize (L[i]'hil).2.1 = R at *
      generalize Q[i] = xq at *
      obtain ⟨⟨p, q⟩, rv, pv, bk⟩ := xq
      obtain ⟨⟨ra, rn, rc, hrv⟩, pa, pn, pc, hpv⟩ := hsl
      simp only at hrv hpv x0 x1 x2 x3 x4 HMS
      subst hrv
      subst hpv
      obtain ⟨ra', rc', hrv, -⟩ := HMS.out w (Below.refl _ _)
      injection hrv with e1 e2 e3
      subst e1 e2 e3
      have HBa := hid ((Below.refl wr.heap.size wr).alloc (Nat.le_refl _) (.cells #[.string p, .string q, .slice ra R.length rc, .slice pa pn pc, .bool bk] 55))
      have HNa := hid (hN.below HBa.out)
      have HIV := hid hiv
      clear hlt hil hes hN HO hiv
      go_wp2_with fail
      generalize wr.alloc (.cells #[.string p, .string q, .slice ra R.length rc, .slice pa pn pc, .bool bk] 55) = W1 at *
      have HR0 := hid (show Rq W1 W1 w.heap.size i vs [] (.slice none 0 0) from ⟨gr_self _ _, by
        have e : vs.set i (Value.slice none 0 0) = vs := by rw [← HVI.out HIV.out]; exact List.set_getElem_self _
        rw [e]; exact HNa.out.hp, World.ownsRow_nil _ _ _ _⟩)
      clear x0 x1 x2 x3 x4
      go_loopw [21] (fun kv wr => ∃ k : Nat, k ≤ R.length ∧ kv = .int .i64 k ∧ Hid (∃ P v, Rq W1 wr w.heap.size i vs P v ∧ P = (R.take k).map fun m => (idxOf (isM m) Q).toNat)) (fun kv _ => R.length - (intOf kv).toNat)
      case atStart => exact ⟨0, Nat.zero_le _, rfl, hid ⟨[], _, HR0.out, rfl⟩⟩
      case round =>
        clear HBa
        obtain ⟨k, hk, rfl, HS⟩ := hrel
        obtain ⟨P, v, hR, hP⟩ := HS.out
        have hBw : Below w.heap.size w wr := HNa.out.bl.grown hR.gr HNa.out.bl.size (fun b e => by cases e; exact HNa.out.lo)
        by_cases hlk : k < R.length
        · have hkI : (k : Int) < (R.length : Int) := by omega
          have hk0 : (0 : Int) ≤ (k : Int) := by omega
          have HLK := hid hlk
          obtain ⟨xb, xo, hxa, yy0, yy1⟩ := (HMS.out _ hBw).cells hlk
          subst hxa
          obtain ⟨x, hx, y0, y1, hxm⟩ : ∃ x : Bm, (R.take (k + 1)).map (fun m => (idxOf (isM m) Q).toNat) = (R.take k).map (fun m => (idxOf (isM m) Q).toNat) ++ [(idxOf (isM x) Q).toNat] ∧ wr.cell? ⟨xb, xo + k * 2, none⟩ = some (.string x.1) ∧ wr.cell? ⟨xb, xo + k * 2 + 1, none⟩ = some (.string x.2) ∧ x ∈ R := ⟨_, by rw [List.take_succ_eq_append_getElem hlk, List.map_append]; rfl, yy0, yy1, List.getElem_mem hlk⟩
          clear yy0 yy1
          obtain ⟨n, hn⟩ := HKR.out x hxm
          have HPN := hid (show P ++ [n] = (R.take (k + 1)).map fun m => (idxOf (isM m) Q).toNat by
            rw [hx, ← hP, hn]; rfl)
          have HPL := hid (show P.length ≤ 1000000 by rw [hP]; simp; omega)
          have HF := hid (fun W (h : Below w.heap.size w W) => HFI.out x W h)
          rw [hn] at HF
          clear hx hxm
          obtain ⟨x1, x2⟩ := x
          have HRR := hid hR
          have HBW := hid hBw
          obtain ⟨va, vn, vc, hv⟩ : ∃ a n c, v = .slice a n c := by
            obtain ⟨_, ⟨e, _⟩ | ⟨g, cap, cur, e, _⟩⟩ := hR.ow
            · exact ⟨_, _, _, e⟩
            · exact ⟨_, _, _, e⟩
          have hgl := HIV.out
          have HGI := hid (fun W (h : Rq W1 W w.heap.size i vs P v) => show W.cell? ⟨w.heap.size, i, none⟩ = some v ∧ ∀ o, W.frozen? ⟨w.heap.size, o, none⟩ = false from ⟨by rw [Lib.cell_of_heap h.hp]; simp [hgl], fun o => Lib.frozen_of_heap h.hp o⟩)
          subst hv
          have HAl := hid ((Below.refl wr.heap.size wr).alloc (Nat.le_refl _) (.cells #[.string x1, .string x2] 36))
          have HM0 := hid (heap_new wr (.cells #[.string x1, .string x2] 36))
          clear hlk hn hP hR HS hBw hgl
          go_wp2_with fail
          generalize wr.alloc (.cells #[.string x1, .string x2] 36) = wa at *
          have HRa := hid (HRR.out.below HAl.out)
          have HBa := hid (HBW.out.trans (HAl.out.mono HBW.out.size))
          obtain ⟨m0, m1, mf⟩ := box_two HM0.out
          obtain ⟨z0, zf⟩ := HGI.out wa HRa.out
          have HRd := hid (fun W (h : Below wa.heap.size wa W) => HRa.out.below h)
          go_region_law (first
            | (go_simp; go_at_call 49; refine (HF.out _ (HBa.out.trans ((below_drawn wa 1).mono HBa.out.size))).mono ?_; rintro e w3 ⟨rfl, hb⟩; have HB3 := hid ((below_drawn wa 1).trans (hb.mono (Nat.le_refl _))); obtain ⟨z1, zf1⟩ := HGI.out w3 (HRd.out w3 HB3.out); have hlt3 : w.heap.size < w3.heap.size := lt_of_blk (HRd.out w3 HB3.out).hp; have hne3 : ¬ w.heap.size = w3.heap.size := Nat.ne_of_lt hlt3; have hne3' : ¬ w3.heap.size = w.heap.size := fun h => hne3 h.symm; have z3 := cell_below ((Below.refl w3.heap.size w3).alloc (Nat.le_refl _) (.cells #[.int .i64 (n : Int)] 3)) z1; clear hb)
            | (refine step_append_lies _ (by rfl) _ _ 110 (by rfl) W1.heap.size 3 i0 _ 1 8 Tryz.underlying110 hi0 hz0 hz1 hz2 rfl (by decide) _ _ _ (by rfl) (((HRd.out w3 HB3.out).ow).alloc _) ⟨w3.heap.size, 0, none⟩ 1 1 [.int .i64 (n : Int)] (by rfl) rfl (World.news_of_block (heap_new _ _)) (by intro u hu; simp at hu; subst hu; rfl) (by decide) (Nat.le_trans (Nat.add_le_add_right HPL.out 1) (by unfold maxLen; decide)) (by have := HPL.out; omega) (Nat.le_trans (HRd.out w3 HB3.out).gr.size (by simp)) (w3.heap.size + 1) (by simp) ?_; intro g cap w4 hown hgrow hat hlt2; have HR4 := hid ((HRa.out).more HB3.out hown hgrow); have HG4 := hid hgrow; obtain ⟨z2, zf2⟩ : w4.cell? ⟨w.heap.size, i, none⟩ = some (.slice va vn vc) ∧ ∀ o, w4.frozen? ⟨w.heap.size, o, none⟩ = false := by
                have h3 := ((HRd.out w3 HB3.out).below ((Below.refl w3.heap.size w3).alloc (Nat.le_refl _) (.cells #[.int .i64 (n : Int)] 3)))
                have hne := own_neK h3.ow h3.hp (by decide)
                have hb := hgrow.block w.heap.size (lt_of_blk h3.hp) (fun e => hne e.symm)
                obtain ⟨c1, c2⟩ := HGI.out _ h3
                exact ⟨(World.cell?_of_block hb).trans c1, fun o => (World.frozen?_of_block hb).trans (c2 o)⟩))
          all_goals
            have HNX := hid (show ∃ P' v', Rq W1 (w4.setCell ⟨w.heap.size, i, none⟩ (.slice (some ⟨g, 0, none⟩) (P.length + 1) cap)) w.heap.size i vs P' v' ∧ P' = (R.take (k + 1)).map fun m => (idxOf (isM m) Q).toNat from ⟨_, _, HR4.out, HPN.out⟩)
            clear hown hgrow hat hlt2 m0 m1 mf z0 zf z1 zf1 z2 zf2 z3 hlt3 hne3 hne3'
            go_wp2_with fail
            go_roundw
            case rel => first | exact ⟨k + 1, HLK.out, nr_idx k, HNX⟩ | exact ⟨k + 1, HLK.out, nx_idx HLK.out (by omega), HNX⟩
            case measure => first | exact nr_meas HLK.out | exact nx_meas HLK.out (by omega)
        · have hkI : ¬ (k : Int) < (R.length : Int) := by omega
          have HNX := hid (show ∃ vs, Nw w wr w.heap.size vs NV (i + 1) from ⟨_, HNa.out.next hR (fun h' => by rw [HNR.out, hP, List.take_of_length_le (by omega)])⟩)
          clear hlk hR hP HS hBw
          go_wp2_with fail
          go_roundw
          case rel => first | exact ⟨i + 1, HLI.out, nr_idx i, HNX⟩ | exact ⟨i + 1, HLI.out, nx_idx HLI.out (by omega), HNX⟩
          case measure => first | exact nr_meas HLI.out | exact nx_meas HLI.out (by omega)
    · have hiI : ¬ (i : Int) < (Q.length : Int) := by omega
      have HE := hid (show ∃ vs, Nv wr w.heap.size vs NV ∧ Below w.heap.size w wr from ⟨vs, ⟨hN.hp, hN.ln, hN.sl, fun j h1 h2 => hN.ia j h1 h2 (by rw [HNL.out] at h2; omega)⟩, hN.bl⟩)
      clear hlt hN HO
      go_wp2_with fail
      go_ret
      exact ⟨rfl, let ⟨vs, h1, h2⟩ := HE.out; ⟨⟨vs, h1⟩, h2⟩⟩
end Ve
end Go.Proofs.YtjhiajeeijfkeaaGreatDoor

/-
  slices.Backward over rows of places; what spread of package down does: it marks what requires one that is marked.
-/
namespace Go.Proofs.YtjhiajeeijfkeaaGreatDoor
open Go.RowKit Go.Shelf
namespace Ve

attribute [local go_sem] Oper.semAt_some

/-- Whatever lay below n1 lies as it lay, but for some blocks. -/
structure Kx (n1 : Nat) (E : Nat → Prop) (W W' : World) : Prop where
  os : W'.os = W.os
  tape : W'.tape = W.tape
  output : W'.output = W.output
  size : W.heap.size ≤ W'.heap.size
  block : ∀ b, b < n1 → ¬ E b → W'.heap[b]? = W.heap[b]?
theorem Kx.refl (n1 : Nat) (E : Nat → Prop) (W : World) : Kx n1 E W W := ⟨rfl, rfl, rfl, Nat.le_refl _, fun _ _ _ => rfl⟩
theorem Kx.trans {n1 : Nat} {E : Nat → Prop} {A B C : World} (h : Kx n1 E A B) (k : Kx n1 E B C) : Kx n1 E A C :=
  ⟨k.os.trans h.os, k.tape.trans h.tape, k.output.trans h.output, Nat.le_trans h.size k.size, fun b hb he => (k.block b hb he).trans (h.block b hb he)⟩
theorem Kx.below {n1 : Nat} {E : Nat → Prop} {W W' : World} (h : Below W.heap.size W W') (hn : n1 ≤ W.heap.size) : Kx n1 E W W' :=
  ⟨h.os, h.tape, h.output, h.size, fun b hb _ => h.block b (Nat.lt_of_lt_of_le hb hn)⟩
theorem Kx.set {n1 g o : Nat} {E : Nat → Prop} (W : World) (x : Value) (he : E g) : Kx n1 E W (W.setCell ⟨g, o, none⟩ x) :=
  ⟨rfl, rfl, rfl, by simp [World.setCell], fun b _ hb => Below.heap_setCell _ _ _ _ (fun e => hb (by rw [e]; exact he))⟩
theorem Kx.grown {n1 : Nat} {E : Nat → Prop} {W W' : World} {row : Option Nat} (h : W.grownBy W' row) (hn : n1 ≤ W.heap.size) (hr : ∀ r, row = some r → n1 ≤ r) : Kx n1 E W W' :=
  ⟨h.os, h.tape, h.output, h.size, fun b hb _ => h.block b (Nat.lt_of_lt_of_le hb hn) (fun e => by have := hr b e.symm; omega)⟩
theorem Kx.less {n1 n2 : Nat} {E E' : Nat → Prop} {W W' : World} (h : Kx n1 E W W') (hn : n2 ≤ n1) (hE : ∀ b, b < n2 → E b → E' b) : Kx n2 E' W W' :=
  ⟨h.os, h.tape, h.output, h.size, fun b hb he => h.block b (Nat.lt_of_lt_of_le hb hn) (fun h2 => he (hE b hb h2))⟩
theorem Kx.put {n1 : Nat} {E : Nat → Prop} (W : World) (l : Nat) (o' : Obj) (hl : n1 ≤ l) : Kx n1 E W (W.putObj l o') :=
  ⟨rfl, rfl, rfl, by simp, fun b hb _ => World.putObj_heap_other (by omega)⟩
theorem Kx.to_below {n1 : Nat} {W W' : World} (h : Kx n1 (fun _ => False) W W') : Below n1 W W' := ⟨h.os, h.tape, h.output, h.size, fun b hb => h.block b hb (fun h => h)⟩
theorem Kx.cell {n1 : Nat} {E : Nat → Prop} {W W' : World} {a : Addr} {v : Value} (h : Kx n1 E W W') (hc : W.cell? a = some v) (hb : a.block < n1) (he : ¬ E a.block) : W'.cell? a = some v := (World.cell?_of_block (h.block _ hb he)).trans hc
/-- The index of a loop that goes down. -/
def ivD : Nat → Value
  | 0 => .int .i64 (-1)
  | k + 1 => .int .i64 (k : Int)
theorem ivD_next (k : Nat) : Value.int .i64 ((k : Int) - 1) = ivD k := by
  cases k with
  | zero => rfl
  | succ k => show Value.int .i64 (((k + 1 : Nat) : Int) - 1) = .int .i64 (k : Int); congr 1; omega
theorem ivD_start (n : Nat) : Value.int .i64 ((n : Int) - 1) = ivD n := ivD_next n
/-- A place of the rows. -/
abbrev Pl (vs : List Value) : Type := { i : Nat // i < vs.length }
def encP (vs : List Value) (x : Pl vs) : Array Value := #[.int .i64 (x.1 : Int), vs[x.1]'x.2]
set_option maxRecDepth 100000 in
set_option maxHeartbeats 4000000 in
theorem back1_in (F : Fence) (n : Nat) (hf : F.fn 110) (hro : F.round = none) (hn : 1 ≤ n) (l Bs n1 g c : Nat) (vs : List Value) (hreach : vs.length ≤ 1000000) (E : Nat → Prop) (hsl : ∀ x, x ∈ vs → ∃ a n c, x = .slice a n c) (J Jx : List (Pl vs) → World → Prop)
    (hY : ∀ pre x W, J pre W → pre.length < vs.length → YieldAt F (n - 1) Tryz.prog l (encP vs x) W fun e W' =>
      (e = .returned (.bool true) ∧ J (pre ++ [x]) W' ∧ Kx n1 E W W') ∨ (e = .returned (.bool false) ∧ Jx (pre ++ [x]) W'))
    (W : World) (hBs : W.cell? ⟨Bs, 0, none⟩ = some (.slice (some ⟨g, 0, none⟩) vs.length c)) (hg : ∀ j (h : j < vs.length), W.cell? ⟨g, j, none⟩ = some vs[j]) (hb1 : Bs < n1) (hb2 : ¬ E Bs) (hg1 : g < n1) (hg2 : ¬ E g) (h0 : J [] W) :
    CallsIn F n Tryz.prog 110 #[.func (.yield l) #[] #[], .pointer (some ⟨Bs, 0, none⟩)] W fun e W' => (∃ v, e = .returned v) ∧
      ((∃ ys : List (Pl vs), (∀ x : Pl vs, x ∈ ys) ∧ J ys W') ∨ (∃ pre, True ∧ Jx pre W')) := by
  refine callsIn_of_wp Tryz.func110 rfl hf ?_ hro
  simp only [Tryz.ntmps110, List.size_toArray, List.length_cons, List.length_nil, Nat.reduceAdd, Nat.reduceSub, Array.replicate_succ, Array.replicate_zero, List.push_toArray, List.append_toArray, List.nil_append, List.cons_append]
  have hst : wrap64 ((vs.length : Int) - 1) = (vs.length : Int) - 1 := IntWalk.wrap64_in _ (by omega)
  have HST := hid (ivD_start vs.length)
  gi_wp2
  gi_loopw [3] (fun iv wr => ∃ (k : Nat) (pre : List (Pl vs)), k ≤ vs.length ∧ iv = ivD k ∧ Hid (pre.length + k = vs.length ∧ (∀ x : Pl vs, k ≤ x.1 → x ∈ pre) ∧ J pre wr ∧ Kx n1 E W wr))
    (fun iv _ => (intOf iv + 1).toNat)
  case atStart => exact ⟨vs.length, [], Nat.le_refl _, by rw [← HST.out], hid ⟨by simp, fun x h => absurd x.2 (by omega), h0, Kx.refl _ _ _⟩⟩
  case round =>
    obtain ⟨k, pre, hk, rfl, HJ⟩ := hrel
    cases k with
    | zero =>
      show Code.wpIn _ _ _ _ _ _ _
      unfold ivD
      gi_wp2
      go_end0
      exact ⟨⟨_, rfl⟩, .inl ⟨pre, fun x => HJ.out.2.1 x (Nat.zero_le _), HJ.out.2.2.1⟩⟩
    | succ k =>
      have hkl : k < vs.length := by omega
      obtain ⟨fn, tmps, assign, body, hy, hR⟩ := hY pre ⟨k, hkl⟩ wr HJ.out.2.2.1 (by have := HJ.out.1; omega)
      have c1 := HJ.out.2.2.2.cell hBs hb1 hb2
      have c2 := HJ.out.2.2.2.cell (hg k hkl) hg1 hg2
      obtain ⟨sa, sn, sc, hsx⟩ := hsl vs[k] (List.getElem_mem hkl)
      unfold encP at hy
      simp only [hsx] at hy c2
      have hkI : (k : Int) < (vs.length : Int) := by omega
      have hk0 : (0 : Int) ≤ (k : Int) := by omega
      have hw1 : wrap64 ((k : Int) - 1) = (k : Int) - 1 := IntWalk.wrap64_in _ (by omega)
      have HNX := hid (ivD_next k)
      unfold ivD
      gi_wp2
      refine hR.mono ?_
      rintro e W3 (⟨rfl, hJ3, hk3⟩ | ⟨rfl, hJx3⟩)
      · gi_wp2
        go_roundw
        case rel => exact ⟨k, pre ++ [⟨k, hkl⟩], by omega, HNX.out, hid ⟨by have := HJ.out.1; simp; omega, fun x hx => by
          rcases Nat.lt_or_ge k x.1 with h | h
          · exact List.mem_append_left _ (HJ.out.2.1 x h)
          · have : x = ⟨k, hkl⟩ := Subtype.ext (by have h1 : k ≤ x.1 := hx; show x.1 = k; omega)
            rw [this]; simp, hJ3, HJ.out.2.2.2.trans hk3⟩⟩
        case measure => first | (simp [intOf]; done) | (simp [intOf]; omega)
      · gi_wp2
        refine bodyPost_ret (results_none rfl _ _ _) rfl ?_
        exact ⟨⟨_, rfl⟩, .inr ⟨_, trivial, hJx3⟩⟩
set_option maxHeartbeats 1000000 in
theorem back_any (a : Option Addr) (len cap : Nat) (w : World) :
    Calls Tryz.prog 74 #[.slice a len cap] w fun e w' => e = .returned (.func (.func 110) #[] #[.pointer (some ⟨w.heap.size, 0, none⟩)]) ∧ w' = w.alloc (.cells #[.slice a len cap] 83) := by
  go_enter Tryz.func74, Tryz.ntmps74
  go_wp2_with fail
  go_ret
  exact ⟨rfl, rfl⟩
/-- What spread did. -/
structure Spd (req : Bm → List Bm) (caps U : List Bm) (NV : List (List Nat)) (O O' : List Bool) (ch : Bool) (D : Nat → Prop) : Prop where
  sd : Sd req caps U O'
  le : unm O' ≤ unm O
  lt : ch = true → unm O' < unm O
  qt : ch = false → O' = O ∧ ∀ i, D i → Qt NV O i
theorem Spd.start {req : Bm → List Bm} {caps U : List Bm} {NV : List (List Nat)} {O : List Bool} (S : Sd req caps U O) : Spd req caps U NV O O false (fun _ => False) :=
  ⟨S, Nat.le_refl _, fun h => (by cases h), fun _ => ⟨rfl, fun _ h => h.elim⟩⟩
theorem Spd.more {req : Bm → List Bm} {caps U : List Bm} {NV : List (List Nat)} {O O' : List Bool} {ch : Bool} {D D' : Nat → Prop} (h : Spd req caps U NV O O' ch D) (N : Nd req U NV) {i : Nat} (hi : i < U.length) (hi' : i < NV.length) (hO : i < O'.length) (h0 : O'[i] = false) (ha : anyO O' NV[i] = true) : Spd req caps U NV O (O'.set i true) true D' :=
  ⟨h.sd.set N hi hi' ha, by have := unm_set _ _ hO h0; have := h.le; omega, fun _ => by have := unm_set _ _ hO h0; have := h.le; omega, fun e => (by cases e)⟩
theorem Spd.skip {req : Bm → List Bm} {caps U : List Bm} {NV : List (List Nat)} {O O' : List Bool} {ch : Bool} {D D' : Nat → Prop} (h : Spd req caps U NV O O' ch D) {i : Nat} (hD : ∀ j, D' j → D j ∨ j = i) (hq : Qt NV O' i) : Spd req caps U NV O O' ch D' :=
  ⟨h.sd, h.le, h.lt, fun e => ⟨(h.qt e).1, fun j hj => by
    rcases hD j hj with h1 | rfl
    · exact (h.qt e).2 j h1
    · have := (h.qt e).1
      rw [this] at hq; exact hq⟩⟩
theorem Spd.wide {req : Bm → List Bm} {caps U : List Bm} {NV : List (List Nat)} {O O' : List Bool} {ch : Bool} {D D' : Nat → Prop} (h : Spd req caps U NV O O' ch D) (hD : ∀ j, D' j → D j) : Spd req caps U NV O O' ch D' :=
  ⟨h.sd, h.le, h.lt, fun e => ⟨(h.qt e).1, fun j hj => (h.qt e).2 j (hD j hj)⟩⟩
end Ve
end Go.Proofs.YtjhiajeeijfkeaaGreatDoor

/-
  What spread of package down does: it marks what requires one that is marked, and tells whether there was any.
-/
namespace Go.Proofs.YtjhiajeeijfkeaaGreatDoor
open Go.RowKit Go.Shelf
namespace Ve

attribute [local go_sem] Oper.semAt_some

/-- Places lie in no block of marks. -/
theorem IaAt.kx {W W' : World} {n1 : Nat} {E : Nat → Prop} {v : Value} {P : List Nat} (h : IaAt W v P) (k : Kx n1 E W W') (hn : W.heap.size ≤ n1) (hE : ∀ b, E b → b < W.heap.size → ∃ O : List Bool, W.heap[b]? = some (.cells (bwc O) 4 (0, 0))) : IaAt W' v P := by
  obtain ⟨a, c, rfl, h1⟩ := h
  refine ⟨a, c, rfl, fun hP => ?_⟩
  obtain ⟨b, o, rfl, h2⟩ := h1 hP
  refine ⟨b, o, rfl, fun j hj => ?_⟩
  have h3 := h2 j hj
  have hlt := lt_of_cell h3
  refine k.cell h3 (Nat.lt_of_lt_of_le hlt hn) (fun e => ?_)
  obtain ⟨O, hO⟩ := hE b e hlt
  rw [Lib.cell_of_heap hO] at h3
  have h4 : (O.map Value.bool)[o + j]? = some (.int .i64 (P[j] : Int)) := by
    unfold bwc at h3
    rw [List.getElem?_toArray] at h3
    exact h3
  obtain ⟨x, hx, hx2⟩ := List.mem_map.1 (List.mem_of_getElem? h4)
  cases hx2
/-- What a round of spread finds. -/
structure Sr (W0 W : World) (mb b5 : Nat) (O' : List Bool) (ch : Bool) : Prop where
  kx : Kx W0.heap.size (fun b => b = mb ∨ b = b5) W0 W
  mr : W.heap[mb]? = some (.cells (bwc O') 4 (0, 0))
  bx : Boxed W b5 4 (.bool ch)
theorem Sr.own {W0 : World} {mb b5 : Nat} {β : Type} (hm : mb < W0.heap.size) (h5 : b5 < W0.heap.size) (C : β → List Bool → Bool → Prop) : OwnFrom W0.heap.size (fun (s : β) W => ∃ O' ch, Sr W0 W mb b5 O' ch ∧ C s O' ch) := by
  rintro s W W' row ⟨O', ch, h, hC⟩ hg hr
  have hn : W0.heap.size ≤ W.heap.size := h.kx.size
  have k : Kx W0.heap.size (fun b => b = mb ∨ b = b5) W W' := Kx.grown hg hn (fun r e => (hr r e).1)
  have hb : ∀ b, b < W0.heap.size → W'.heap[b]? = W.heap[b]? := fun b hb => hg.block b (Nat.lt_of_lt_of_le hb hn) (fun e => by have := (hr b e.symm).1; omega)
  exact ⟨O', ch, ⟨h.kx.trans k, (hb mb hm).trans h.mr, (hb b5 h5).trans h.bx⟩, hC⟩
theorem bool_box (W : World) (b5 : Nat) (T : TypeId) {x : Value} (v : Value) (h : W.heap[b5]? = some (.cells #[x] T (0, 0))) : (W.setCell ⟨b5, 0, none⟩ v).heap[b5]? = some (.cells #[v] T (0, 0)) := by
  rw [set_block h]; rfl
set_option maxRecDepth 100000 in
set_option maxHeartbeats 8000000 in
/-- down.spread. -/
theorem spread_any (req : Bm → List Bm) (caps U : List Bm) (NV : List (List Nat)) (vs : List Value) (O : List Bool) (g mb c1 c2 : Nat) (w : World) (hU : U.length ≤ 1000) (hNl : ∀ P, P ∈ NV → P.length ≤ 1000000) (N : Nd req U NV) (S : Sd req caps U O) (V : Nv w g vs NV) (hmb : w.heap[mb]? = some (.cells (bwc O) 4 (0, 0))) :
    Calls Tryz.prog 44 #[.slice (some ⟨g, 0, none⟩) vs.length c1, .slice (some ⟨mb, 0, none⟩) vs.length c2] w fun e w' => ∃ O' ch, e = .returned (.bool ch) ∧ w'.heap[mb]? = some (.cells (bwc O') 4 (0, 0)) ∧ Kx w.heap.size (fun b => b = mb) w w' ∧ Spd req caps U NV O O' ch (fun i => i < U.length) := by
  have eg : ∀ args w, (callFunc 73 args).run Tryz.prog w = .ok (.enter 73 args) w := enters_of Tryz.func73 (by kernel_rfl) rfl
  have HVL := hid (show vs.length = U.length from V.ln.trans N.ln)
  have hvn : vs.length ≤ 1000 := by have := HVL.out; omega
  have hsf := fun (a : Addr) (c : Array Value) (w : World) => run_store Tryz.prog w a (.func (.func 73) #[] c) .plain rfl
  have hml := lt_of_blk hmb
  have hgl := lt_of_blk V.hp
  have hgm : g ≠ mb := fun e => by
    subst e
    have := V.hp.symm.trans hmb
    simp at this
  -- the boxes
  have s1 := heap_new w (.cells #[.slice (some ⟨mb, 0, none⟩) vs.length c2] 44)
  obtain ⟨w1, hw1⟩ : ∃ w1, w.alloc (.cells #[.slice (some ⟨mb, 0, none⟩) vs.length c2] 44) = w1 := ⟨_, rfl⟩
  have z1 : w1.heap.size = w.heap.size + 1 := by rw [← hw1]; simp
  rw [hw1] at s1
  have s2 := heap_new w1 (.cells #[.bool false] 4)
  obtain ⟨w2, hw2⟩ : ∃ w2, w1.alloc (.cells #[.bool false] 4) = w2 := ⟨_, rfl⟩
  have z2 : w2.heap.size = w.heap.size + 1 + 1 := by rw [← hw2]; simp [z1]
  rw [hw2, z1] at s2
  have s1b := heap_old w1 (.cells #[.bool false] 4) s1
  rw [hw2] at s1b
  have s3 := heap_new w2 (.cells #[.func (.func 73) #[] #[.pointer (some ⟨w.heap.size, 0, none⟩)]] 88)
  obtain ⟨w3, hw3⟩ : ∃ w3, w2.alloc (.cells #[.func (.func 73) #[] #[.pointer (some ⟨w.heap.size, 0, none⟩)]] 88) = w3 := ⟨_, rfl⟩
  have z3 : w3.heap.size = w.heap.size + 1 + 1 + 1 := by rw [← hw3]; simp [z2]
  rw [hw3, z2] at s3
  have s1c := heap_old w2 (.cells #[.func (.func 73) #[] #[.pointer (some ⟨w.heap.size, 0, none⟩)]] 88) s1b
  have s2b := heap_old w2 (.cells #[.func (.func 73) #[] #[.pointer (some ⟨w.heap.size, 0, none⟩)]] 88) s2
  rw [hw3] at s1c s2b
  have s4 := heap_new w3 (.cells #[.slice (some ⟨g, 0, none⟩) vs.length c1] 83)
  obtain ⟨w4, hw4⟩ : ∃ w4, w3.alloc (.cells #[.slice (some ⟨g, 0, none⟩) vs.length c1] 83) = w4 := ⟨_, rfl⟩
  have z4 : w4.heap.size = w.heap.size + 1 + 1 + 1 + 1 := by rw [← hw4]; simp [z3]
  rw [hw4, z3] at s4
  have t1 := heap_old w3 (.cells #[.slice (some ⟨g, 0, none⟩) vs.length c1] 83) s1c
  have t2 := heap_old w3 (.cells #[.slice (some ⟨g, 0, none⟩) vs.length c1] 83) s2b
  have t3 := heap_old w3 (.cells #[.slice (some ⟨g, 0, none⟩) vs.length c1] 83) s3
  rw [hw4] at t1 t2 t3
  have hB4 : Below w.heap.size w w4 := by
    rw [← hw4, ← hw3, ← hw2, ← hw1]
    exact ((((Below.refl w.heap.size w).alloc (Nat.le_refl _) _).alloc (by simp) _).alloc (by simp; omega) _).alloc (by simp; omega) _
  have hm4 : w4.heap[mb]? = some (.cells (bwc O) 4 (0, 0)) := (hB4.block mb hml).trans hmb
  have hg4 : ∀ j (h : j < vs.length), w4.cell? ⟨g, j, none⟩ = some vs[j] := fun j h => by
    rw [hB4.cell hgl, Lib.cell_of_heap V.hp]; simp [h]
  have hia4 : ∀ j (h : j < vs.length) (h' : j < NV.length), IaAt w4 vs[j] NV[j] := fun j h h' => (V.ia j h h').below hB4
  have hE : ∀ b, (b = mb ∨ b = w.heap.size + 1) → b < w4.heap.size → ∃ O : List Bool, w4.heap[b]? = some (.cells (bwc O) 4 (0, 0)) := fun b hb _ => by
    rcases hb with rfl | rfl
    · exact ⟨O, hm4⟩
    · exact ⟨[false], t2⟩
  have HW1 := hid hw1
  have HW2 := hid hw2
  have HW3 := hid hw3
  have HW4 := hid hw4
  have Z4 := hid z4
  have S4 := hid s4
  have T1 := hid t1
  have T2 := hid t2
  have T3 := hid t3
  have B4 := hid hB4
  have M4 := hid hm4
  have G4 := hid hg4
  have A4 := hid hia4
  have EE := hid hE
  clear hw1 hw2 hw3 hw4 z1 z2 z3 z4 s1 s2 s3 s4 s1b s1c s2b t1 t2 t3 hB4 hm4 hg4 hia4 hE
  refine (callsIn_wide (n := 8)).1 ?_
  refine callsIn_of_wp_marks Tryz.func44 rfl trivial ?_ rfl
  simp only [Tryz.ntmps44, List.size_toArray, List.length_cons, List.length_nil, Nat.reduceAdd, Nat.reduceSub, Array.replicate_succ, Array.replicate_zero, List.push_toArray, List.append_toArray, List.nil_append, List.cons_append]
  gi_wp2_with (refine ⟨trivial, ?_⟩; gi_at_call 74; refine (callsIn_wide.2 (back_any (some ⟨g, 0, none⟩) vs.length c1 _)).mono ?_; rintro e w' ⟨rfl, rfl⟩)
  rw [HW1.out, HW2.out, HW3.out, HW4.out]
  have z4 := Z4.out
  have s4 := S4.out
  have t1 := T1.out
  have t2 := T2.out
  have t3 := T3.out
  have hB4 := B4.out
  have hm4 := M4.out
  have hg4 := G4.out
  have hia4 := A4.out
  have hE := EE.out
  clear hsf
  refine wpIn_rangeFunc_ownG rfl (by omega) (gf := 110) (lb := #[.pointer (some ⟨w.heap.size + 1 + 1 + 1, 0, none⟩)]) rfl trivial (enters_of Tryz.func110 (by kernel_rfl) rfl)
    (encs := encP vs) (Kp := Kx w4.heap.size (fun b => b = mb ∨ b = w.heap.size + 1)) (S := fun ys => ∀ x : Pl vs, x ∈ ys) (Sp := fun _ => True) (N := vs.length) (w0 := w4)
    (fun l J Jx W hW _ _ hY h0 => back1_in Fence.wide _ trivial rfl (by omega) l (w.heap.size + 1 + 1 + 1) w4.heap.size g c1 vs (by omega) (fun b => b = mb ∨ b = w.heap.size + 1) V.sl J Jx hY W (cell_below hW (by rw [Lib.cell_of_heap s4]; rfl)) (fun j h => cell_below hW (hg4 j h)) (by omega) (by omega) (by omega) (by omega) h0)
    (fun h k => h.trans k) (fun W l o o' hl _ _ _ => Kx.put W l o' hl) (Below.refl _ _) (fun _ => rfl)
    (fun pre W => ∃ O' ch, Sr w4 W mb (w.heap.size + 1) O' ch ∧ Spd req caps U NV O O' ch (fun i => ∃ x : Pl vs, x ∈ pre ∧ x.1 = i))
    (fun _ _ _ => False)
    (Sr.own (by omega) (by omega) _)
    (fun _ _ _ _ _ hs _ _ => hs)
    ⟨O, false, ⟨Kx.refl _ _ _, hm4, t2⟩, (Spd.start S).wide (fun j ⟨x, hx, _⟩ => by cases hx)⟩
    (fun x => { tmps := #[.slice (some ⟨g, 0, none⟩) vs.length c1, .slice (some ⟨mb, 0, none⟩) vs.length c2, undef, .pointer (some ⟨w.heap.size, 0, none⟩), .bool false, .pointer (some ⟨w.heap.size + 1, 0, none⟩), .pointer (some ⟨w.heap.size + 1 + 1, 0, none⟩), .int .i64 (x.1 : Int), vs[x.1]'x.2, .func (.func 73) #[] #[.pointer (some ⟨w.heap.size, 0, none⟩)], .slice (some ⟨g, 0, none⟩) vs.length c1, .func (.func 110) #[] #[.pointer (some ⟨w.heap.size + 1 + 1 + 1, 0, none⟩)], .int .i64 (x.1 : Int), vs[x.1]'x.2, undef, undef, undef, undef, undef, undef, undef, undef, undef, undef, undef, undef, undef, undef], defers := [] }) ?assign ?body ?done ?stop
  case assign =>
    intro l x W K hK
    unfold encP
    gi_wp2
    exact hK
  case body =>
    rintro l pre x W ⟨O', ch, hSr, hSp⟩ _
    obtain ⟨k, hk⟩ := x
    have hkU : k < U.length := by have := HVL.out; omega
    have hkN : k < NV.length := by rw [N.ln]; exact hkU
    have HOl := hid (show O'.length = U.length from hSp.sd.ln)
    have hkO : k < O'.length := by have := HOl.out; omega
    have hkI : (k : Int) < (vs.length : Int) := by omega
    have hk0 : (0 : Int) ≤ (k : Int) := by omega
    have cm := hSr.kx.cell (a := ⟨w.heap.size, 0, none⟩) (by rw [Lib.cell_of_heap t1]; rfl) (by show w.heap.size < w4.heap.size; omega) (by show ¬ (w.heap.size = mb ∨ w.heap.size = w.heap.size + 1); omega)
    have cf := hSr.kx.cell (a := ⟨w.heap.size + 1 + 1, 0, none⟩) (by rw [Lib.cell_of_heap t3]; rfl) (by show w.heap.size + 1 + 1 < w4.heap.size; omega) (by show ¬ (w.heap.size + 1 + 1 = mb ∨ w.heap.size + 1 + 1 = w.heap.size + 1); omega)
    have cx := bwc_at hSr.mr hkO
    have cfz := fun o => Lib.frozen_of_heap hSr.mr o
    have bz := hSr.bx.cell
    have bf := hSr.bx.frozen
    have hia := (hia4 k hk hkN).kx hSr.kx (Nat.le_refl _) hE
    have HHI := hid (hasI_any 73 #[.pointer (some ⟨w.heap.size, 0, none⟩)] (fun j => O'[j]?.getD false) NV[k] vs[k] W eg (hNl _ (List.getElem_mem hkN)) hia (fun i hi W' hW => by
      obtain ⟨hj, -⟩ := N.bk k hkU hkN _ (List.getElem_mem hi)
      exact spK_any O' _ mb w.heap.size vs.length c2 W' (by have := HOl.out; omega) (by have := HOl.out; have := HVL.out; omega) (cell_below hW cm) ((hW.block _ (lt_of_blk hSr.mr)).trans hSr.mr)))
    have HAN := hid (show NV[k].any (fun j => O'[j]?.getD false) = anyO O' NV[k] from rfl)
    rw [HAN.out] at HHI
    have HSr := hid hSr
    have HSp := hid hSp
    have HD := hid (show ∀ j, (∃ y : Pl vs, y ∈ pre ++ [(⟨k, hk⟩ : Pl vs)] ∧ y.1 = j) → (∃ y : Pl vs, y ∈ pre ∧ y.1 = j) ∨ j = k from fun j ⟨y, hy, e⟩ => by
      rcases List.mem_append.1 hy with h | h
      · exact Or.inl ⟨y, h, e⟩
      · have := List.mem_singleton.1 h
        subst this; exact Or.inr e.symm)
    have hd : 1 ≤ 8 - 1 - 1 := by omega
    cases hok : O'[k] with
    | true =>
      rw [hok] at cx
      have HQ := hid (show Qt NV O' k from fun h h' e => by rw [hok] at e; cases e)
      clear hok hSr hSp
      gi_wp2
      refine ⟨trivial, ?_⟩
      gi_wp2
      exact ⟨KeepsFrom.refl _ _, Kx.refl _ _ _, O', ch, HSr.out, HSp.out.skip HD.out HQ.out⟩
    | false =>
      rw [hok] at cx
      cases han : anyO O' NV[k] with
      | false =>
        rw [han] at HHI
        have HQ := hid (show Qt NV O' k from fun h h' e => han)
        clear hok hSr hSp han
        gi_wp2_with (refine ⟨trivial, ?_⟩; gi_at_call 75; refine (CallsIn.inRound l (callsIn_wide.2 HHI.out)).mono ?_; rintro e W1 ⟨rfl, hb⟩)
        refine ⟨(KeepsFrom.of_grownBy (row := none) ⟨hb.os, hb.tape, hb.output, hb.size, fun b h _ => hb.block b h⟩ (fun j e => by cases e)), Kx.below hb HSr.out.kx.size, O', ch, ⟨HSr.out.kx.trans (Kx.below hb HSr.out.kx.size), (hb.block _ (lt_of_blk HSr.out.mr)).trans HSr.out.mr, (hb.block _ HSr.out.bx.lt).trans HSr.out.bx⟩, HSp.out.skip HD.out HQ.out⟩
      | true =>
        rw [han] at HHI
        have HMO := hid (HSp.out.more (D' := fun i => ∃ x : Pl vs, x ∈ pre ++ [(⟨k, hk⟩ : Pl vs)] ∧ x.1 = i) N hkU hkN hkO hok han)
        clear hok hSr hSp han
        gi_wp2_with (refine ⟨trivial, ?_⟩; gi_at_call 75; refine (CallsIn.inRound l (callsIn_wide.2 HHI.out)).mono ?_; rintro e W1 ⟨rfl, hb⟩; have cm1 := cell_below hb cm; have cx1 := cell_below hb cx; have hmk1 := (hb.block _ (lt_of_blk HSr.out.mr)).trans HSr.out.mr; have hbx1 := (hb.block _ HSr.out.bx.lt).trans HSr.out.bx; have cfz1 := fun o => Lib.frozen_of_heap hmk1 o; have bz1 := cell_below hb bz; have bf1 := Lib.frozen_of_heap hbx1 0)
        have k1 : Kx w4.heap.size (fun b => b = mb ∨ b = w.heap.size + 1) W W1 := Kx.below hb HSr.out.kx.size
        have k2 : Kx w4.heap.size (fun b => b = mb ∨ b = w.heap.size + 1) W1 (W1.setCell ⟨mb, k, none⟩ (.bool true)) := Kx.set W1 _ (Or.inl rfl)
        have k3 : Kx w4.heap.size (fun b => b = mb ∨ b = w.heap.size + 1) (W1.setCell ⟨mb, k, none⟩ (.bool true)) ((W1.setCell ⟨mb, k, none⟩ (.bool true)).setCell ⟨w.heap.size + 1, 0, none⟩ (.bool true)) := Kx.set _ _ (Or.inr rfl)
        have m1 : (W1.setCell ⟨mb, k, none⟩ (.bool true)).heap[mb]? = some (.cells (bwc (O'.set k true)) 4 (0, 0)) := by rw [set_block hmk1, bwc_put]
        have m2 := keep_set (fb := w.heap.size + 1) (o := 0) (x := .bool true) m1 (by omega)
        have b1 := keep_set (fb := mb) (o := k) (x := .bool true) hbx1 (by omega)
        have b2 := bool_box _ _ _ (.bool true) b1
        refine ⟨((KeepsFrom.of_grownBy (row := none) ⟨hb.os, hb.tape, hb.output, hb.size, fun b h _ => hb.block b h⟩ (fun j e => by cases e)).trans ((KeepsOthers.setCell _ _ _).from _)).trans ((KeepsOthers.setCell _ _ _).from _), (k1.trans k2).trans k3, O'.set k true, true, ⟨((HSr.out.kx.trans k1).trans k2).trans k3, m2, b2⟩, HMO.out⟩
  case done =>
    rintro D ys W hD hS ⟨O', ch, hSr, hSp⟩ hK
    have hc := hSr.bx.cell
    have HX := hid (show Kx w.heap.size (fun b => b = mb) w (W.putObj D (.deferred none)) from ((Kx.below hB4 (Nat.le_refl _)).trans (hSr.kx.less (by omega) (fun b hb h => by rcases h with h | h; exact h; omega))).trans (Kx.put W D _ (by omega)))
    have HM := hid (show (W.putObj D (.deferred none)).heap[mb]? = some (.cells (bwc O') 4 (0, 0)) from (World.putObj_heap_other (by omega)).trans hSr.mr)
    have HP := hid (hSp.wide (D' := fun i => i < U.length) (fun j hj => ⟨⟨j, by have := HVL.out; omega⟩, hS _, rfl⟩))
    gi_wp2
    refine ⟨by simp, .inl ⟨_, _, rfl, run_takeDeferred hK, ?_⟩⟩
    exact ⟨_, results_tmp rfl _ _ _, O', ch, rfl, HM.out, HX.out, HP.out⟩
  case stop =>
    rintro D c pre W _ _ h _
    exact h.elim
end Ve
end Go.Proofs.YtjhiajeeijfkeaaGreatDoor

/-
  What Bad of package down answers: which entries are bad.
-/
namespace Go.Proofs.YtjhiajeeijfkeaaGreatDoor
open Go.RowKit Go.Maps
namespace Ve

open Classical in
/-- Which entries are bad. -/
noncomputable def bdL (Q : List Raw) (L : List Ent) (caps : List Bm) : List Bool := (univ L).map fun m => decide (Bd (reqQ Q L) caps m)
theorem bdL_len (Q : List Raw) (L : List Ent) (caps : List Bm) : (bdL Q L caps).length = L.length := by simp [bdL, univ]
theorem bdL_at {Q : List Raw} {L : List Ent} {caps : List Bm} {i : Nat} (h : i < (univ L).length) (h' : i < (bdL Q L caps).length) : (bdL Q L caps)[i] = true ↔ Bd (reqQ Q L) caps (univ L)[i] := by
  simp [bdL]
theorem bdL_of {Q : List Raw} {L : List Ent} {caps : List Bm} {O : List Bool} (hl : O.length = (univ L).length) (h : ∀ i (h : i < (univ L).length) (h' : i < O.length), O[i] = true ↔ Bd (reqQ Q L) caps (univ L)[i]) : O = bdL Q L caps := by
  have hU : (univ L).length = L.length := univ_len L
  refine List.ext_getElem (by rw [bdL_len, hl, hU]) fun i h1 h2 => ?_
  have h3 := h i (by omega) h1
  have h4 := bdL_at (Q := Q) (L := L) (caps := caps) (i := i) (by omega) h2
  exact Bool.eq_iff_iff.2 (h3.trans h4.symm)
/-- What Bad refuses. -/
def bF (Q : List Raw) (L : List Ent) (caps : List Bm) : Nat × Option Nat := if (chk Q L).1 = 0 then chkP caps else chk Q L
open Classical in
/-- What Bad answers. -/
noncomputable def bO (Q : List Raw) (L : List Ent) (caps : List Bm) : List Bool := if (bF Q L caps).1 = 0 then bdL Q L caps else []
theorem bF_chk {Q : List Raw} {L : List Ent} {caps : List Bm} (h : (bF Q L caps).1 = 0) : (chk Q L).1 = 0 ∧ (chkP caps).1 = 0 := by
  unfold bF at h
  by_cases hc : (chk Q L).1 = 0
  · rw [if_pos hc] at h; exact ⟨hc, h⟩
  · rw [if_neg hc] at h; exact absurd h hc
/-- A slice of marks. -/
def BsAt (W : World) (v : Value) (O : List Bool) : Prop := ∃ a c, v = .slice a O.length c ∧ (O ≠ [] → ∃ g, a = some ⟨g, 0, none⟩ ∧ W.heap[g]? = some (.cells (bwc O) 4 (0, 0)))
theorem BsAt.below {W W' : World} {v : Value} {O : List Bool} (h : BsAt W v O) (hb : Below W.heap.size W W') : BsAt W' v O := by
  obtain ⟨a, c, rfl, h1⟩ := h
  refine ⟨a, c, rfl, fun hO => ?_⟩
  obtain ⟨g, rfl, h2⟩ := h1 hO
  exact ⟨g, rfl, (hb.block _ (lt_of_blk h2)).trans h2⟩
theorem above_sd {w : World} {v : Value} {Q : List Raw} {L : List Ent} (I : Ixs w v Q L) (caps : List Bm) : Sd (reqQ Q L) caps (univ L) (Q.map fun r => capB caps r.1) := by
  have hU : (univ L).length = L.length := univ_len L
  have hm : ∀ i (h : i < (univ L).length) (h' : i < (Q.map fun r => capB caps r.1).length), (Q.map fun r => capB caps r.1)[i] = capB caps (univ L)[i] := fun i h h' => by
    have hq : i < Q.length := by simpa using h'
    rw [List.getElem_map]
    have := (I.ok i hq (by omega)).m
    simp only [univ, List.getElem_map]
    rw [this]
  refine ⟨by simp [I.ln, hU], fun i h h' ho => ?_, fun i h h' hc => ?_⟩
  · rw [hm i h h'] at ho
    exact bd_iff.2 (Or.inl ho)
  · rw [hm i h h']; exact hc
theorem nvL_short {Q : List Raw} {L : List Ent} (sh : ∀ e, e ∈ L → ShE e) : ∀ P, P ∈ nvL Q L → P.length ≤ 1000000 := fun P hP => by
  obtain ⟨e, he, rfl⟩ := List.mem_map.1 hP
  have := (sh e he).rn
  simp; omega
theorem Nv.kx {W W' : World} {g mb : Nat} {vs : List Value} {NV : List (List Nat)} {O : List Bool} (h : Nv W g vs NV) (hm : W.heap[mb]? = some (.cells (bwc O) 4 (0, 0))) (k : Kx W.heap.size (fun b => b = mb) W W') : Nv W' g vs NV := by
  have hgm : g ≠ mb := fun e => by
    subst e
    have := h.hp.symm.trans hm
    simp at this
  exact ⟨(k.block g (lt_of_blk h.hp) hgm).trans h.hp, h.ln, h.sl, fun j h1 h2 => (h.ia j h1 h2).kx k (Nat.le_refl _) (fun b e _ => by subst e; exact ⟨O, hm⟩)⟩
set_option maxRecDepth 100000 in
set_option maxHeartbeats 4000000 in
theorem bad_good (Q : List Raw) (L : List Ent) (caps : List Bm) (v cv : Value) (A : Nat → Addr) (m : Int) (w : World) (hn : L.length ≤ 1000) (hcn : caps.length ≤ 1000000) (sh : ∀ e, e ∈ L → ShE e) (hs : shortL caps) (S : Te w A m) (I : Ixs w v Q L) (hc : MsAt w cv caps) (h0 : (bF Q L caps).1 = 0) :
    Calls Tryz.prog 19 #[v, cv] w fun e w' => ∃ g, e = .returned (.tuple #[.slice (some ⟨g, 0, none⟩) (bdL Q L caps).length (bdL Q L caps).length, .nilIface]) ∧ Mb w w' g (bdL Q L caps) := by
  obtain ⟨k0, k1⟩ := bF_chk h0
  have HIC := hid (icheck_any Q L v A m w (by omega) sh S I)
  have HCA := hid (fun W (h : Below w.heap.size w W) => caps_any caps cv A m W hcn hs (S.below h) (hc.below h))
  have HAB := hid (fun W (h : Below w.heap.size w W) => above_any Q caps v cv A m W (by rw [I.ln]; omega) hcn (fun r hr => by
    obtain ⟨j, hj, rfl⟩ := List.getElem_of_mem hr
    have hj2 : j < L.length := by rw [← I.ln]; exact hj
    rw [(I.ok j hj hj2).m]
    exact Nat.lt_of_lt_of_le (sh _ (List.getElem_mem hj2)).v (by omega)) (fun c hc => (hs c hc).2) (caps_rise k1) (S.below h) (I.below h).es (hc.below h))
  have HRQ := hid (fun W (h : Below w.heap.size w W) => required_any Q L v W hn sh (I.below h) k0)
  have HND := hid (nvL_nd I k0)
  have HSD := hid (above_sd I caps)
  have HSP := hid (fun vs O g mb c1 c2 W (S' : Sd (reqQ Q L) caps (univ L) O) (V : Nv W g vs (nvL Q L)) hmb => spread_any (reqQ Q L) caps (univ L) (nvL Q L) vs O g mb c1 c2 W (by rw [univ_len]; exact hn) (nvL_short sh) HND.out S' V hmb)
  have HOF := hid (fun O hl h => bdL_of (Q := Q) (L := L) (caps := caps) (O := O) hl h)
  have HDN := hid (fun O (S' : Sd (reqQ Q L) caps (univ L) O) hq => S'.done HND.out hq)
  have HQL := hid (show Q.length = (univ L).length by rw [I.ln, univ_len])
  have HBL := hid (show (bdL Q L caps).length = Q.length by rw [bdL_len, I.ln])
  have HNL := hid (show (nvL Q L).length = Q.length by rw [I.ln]; simp [nvL])
  have hqn : Q.length ≤ 1000 := by rw [I.ln]; exact hn
  obtain ⟨oo, ho⟩ : ∃ oo, chk Q L = (0, oo) := ⟨_, Prod.ext k0 rfl⟩
  obtain ⟨op, hp⟩ : ∃ oo, chkP caps = (0, oo) := ⟨_, Prod.ext k1 rfl⟩
  rw [ho] at HIC
  rw [hp] at HCA
  obtain ⟨a, c, hv, -⟩ := id I.es
  subst hv
  obtain ⟨ca, cn, cc, hcv⟩ := hc.slice
  subst hcv
  clear S I hc sh hs h0 k0 k1 ho hp HND hn
  generalize reqQ Q L = req at *
  generalize nvL Q L = NV at *
  generalize bdL Q L caps = BL at *
  rw [HBL.out]
  go_enter Tryz.func19, Tryz.ntmps19
  go_wp2_with fail
  refine HIC.out.mono ?_
  rintro e w1 ⟨x1, rfl, he, hb⟩
  have HB1 := hid hb
  rcases he.kind with ⟨-, rfl⟩ | ⟨h, -⟩
  rotate_left
  · exact absurd rfl h
  clear he hb HIC
  go_wp2_with fail
  refine (HCA.out w1 HB1.out).mono ?_
  rintro e w2 ⟨x2, rfl, he, hb⟩
  have HB2 := hid (HB1.out.trans (hb.mono HB1.out.size))
  rcases he.kind with ⟨-, rfl⟩ | ⟨h, -⟩
  rotate_left
  · exact absurd rfl h
  clear he hb HCA HB1
  go_wp2_with fail
  refine (HAB.out w2 HB2.out).mono ?_
  rintro e w3 ⟨rfl, hM⟩
  have HB3 := hid (HB2.out.trans (hM.bl.mono HB2.out.size))
  have HM3 := hid hM
  clear hM HAB
  go_wp2_with fail
  refine (HRQ.out w3 HB3.out).mono ?_
  rintro e w4 ⟨rfl, vs, hV, hb⟩
  have HB4 := hid (HB3.out.trans (hb.mono HB3.out.size))
  have HM4 := hid ((hb.block _ (lt_of_blk HM3.out.hp)).trans HM3.out.hp)
  have HV4 := hid hV
  have HVL := hid (show vs.length = Q.length from hV.ln.trans HNL.out)
  have HS0 := hid HSD.out
  clear hb hV HRQ HM3 HB3
  generalize (Q.map fun r => capB caps r.1) = O0 at *
  generalize hgN : w3.heap.size = gN at *
  generalize hgM : w2.heap.size = gM at *
  go_wp2_with fail
  go_loopw [27] (fun _ wr => Hid (∃ O, Below w.heap.size w wr ∧ Nv wr gN vs NV ∧ wr.heap[gM]? = some (.cells (bwc O) 4 (0, 0)) ∧ Sd req caps (univ L) O)) (fun _ wr => unmW wr.heap[gM]?)
  case atStart => exact hid ⟨O0, HB4.out, HV4.out, HM4.out, HS0.out⟩
  case round =>
    obtain ⟨O, hB, hV, hM, hS⟩ := hrel.out
    have HMS := hid (unmW_is hM)
    have HSX := hid (HSP.out vs O gN gM Q.length Q.length wr hS hV hM)
    rw [HVL.out] at HSX
    have HKB := hid (show w.heap.size ≤ gM by rw [← hgM]; exact HB2.out.size)
    have HX := hid (show Below w.heap.size w wr ∧ Nv wr gN vs NV ∧ wr.heap[gM]? = some (.cells (bwc O) 4 (0, 0)) from ⟨hB, hV, hM⟩)
    clear hB hV hM hS hrel
    go_wp2_with fail
    refine HSX.out.mono ?_
    rintro e w5 ⟨O', ch, rfl, hm5, hk5, hs5⟩
    have HB5 := hid (show Below w.heap.size w w5 from HX.out.1.trans ⟨hk5.os, hk5.tape, hk5.output, hk5.size, fun b hb => hk5.block b (Nat.lt_of_lt_of_le hb HX.out.1.size) (by have := HKB.out; omega)⟩)
    have HV5 := hid (HX.out.2.1.kx HX.out.2.2 hk5)
    have HM5 := hid hm5
    cases ch with
    | true =>
      have HS5 := hid hs5.sd
      have HLT := hid (hs5.lt rfl)
      have HM6 := hid (unmW_is hm5)
      clear hm5 hk5 hs5
      go_wp2_with fail
      go_roundw
      case rel => exact hid ⟨O', HB5.out, HV5.out, HM5.out, HS5.out⟩
      case measure =>
        show unmW w5.heap[gM]? < unmW wr.heap[gM]?
        rw [HM6.out, HMS.out]
        exact HLT.out
    | false =>
      obtain ⟨e1, e2⟩ := hs5.qt rfl
      subst e1
      have HE := hid (HOF.out O' hs5.sd.ln (HDN.out O' hs5.sd e2))
      clear hm5 hk5 hs5 e2
      have HFI := hid (show Mb w w5 gM BL from ⟨HB5.out, HKB.out, by rw [← HE.out]; exact HM5.out⟩)
      go_wp2_with fail
      go_ret2
      exact ⟨gM, rfl, HFI.out⟩
set_option maxRecDepth 100000 in
set_option maxHeartbeats 2000000 in
theorem bad_bad (Q : List Raw) (L : List Ent) (caps : List Bm) (v cv : Value) (A : Nat → Addr) (m : Int) (w : World) (hn : L.length ≤ 1000) (hcn : caps.length ≤ 1000000) (sh : ∀ e, e ∈ L → ShE e) (hs : shortL caps) (S : Te w A m) (I : Ixs w v Q L) (hc : MsAt w cv caps) (h0 : ¬ (bF Q L caps).1 = 0) :
    Calls Tryz.prog 19 #[v, cv] w fun e w' => ∃ T a, e = .returned (.tuple #[.slice none 0 0, .iface T (.pointer (some a))]) ∧ ErrAt w' A (.iface T (.pointer (some a))) (bF Q L caps).1 (bF Q L caps).2 ∧ Below w.heap.size w w' := by
  have HIC := hid (icheck_any Q L v A m w (by omega) sh S I)
  have HCA := hid (fun W (h : Below w.heap.size w W) => caps_any caps cv A m W hcn hs (S.below h) (hc.below h))
  obtain ⟨a, c, hv, -⟩ := id I.es
  subst hv
  obtain ⟨ca, cn, cc, hcv⟩ := hc.slice
  subst hcv
  clear S I hc sh hs hn
  by_cases k0 : (chk Q L).1 = 0
  · have hbf : bF Q L caps = chkP caps := if_pos k0
    rw [hbf] at h0 ⊢
    obtain ⟨oo, ho⟩ : ∃ oo, chk Q L = (0, oo) := ⟨_, Prod.ext k0 rfl⟩
    rw [ho] at HIC
    have H0 := hid h0
    clear k0 ho h0 hbf
    generalize chkP caps = R at *
    go_enter Tryz.func19, Tryz.ntmps19
    go_wp2_with fail
    refine HIC.out.mono ?_
    rintro e w1 ⟨x1, rfl, he, hb⟩
    have HB1 := hid hb
    rcases he.kind with ⟨-, rfl⟩ | ⟨h, -⟩
    rotate_left
    · exact absurd rfl h
    clear he hb HIC
    go_wp2_with fail
    refine (HCA.out w1 HB1.out).mono ?_
    rintro e w2 ⟨x2, rfl, he, hb⟩
    have HB2 := hid (HB1.out.trans (hb.mono HB1.out.size))
    have HE := hid he
    rcases he.kind with ⟨h, -⟩ | ⟨-, T, xa, rfl⟩
    · exact absurd h H0.out
    clear he hb HCA HB1
    go_wp2_with fail
    go_ret2
    exact ⟨_, _, rfl, HE.out, HB2.out⟩
  · have hbf : bF Q L caps = chk Q L := if_neg k0
    rw [hbf]
    have H0 := hid k0
    clear k0 h0 hbf HCA
    generalize chk Q L = R at *
    go_enter Tryz.func19, Tryz.ntmps19
    go_wp2_with fail
    refine HIC.out.mono ?_
    rintro e w1 ⟨x1, rfl, he, hb⟩
    have HB1 := hid hb
    have HE := hid he
    rcases he.kind with ⟨h, -⟩ | ⟨-, T, xa, rfl⟩
    · exact absurd h H0.out
    clear he hb HIC
    go_wp2_with fail
    go_ret2
    exact ⟨_, _, rfl, HE.out, HB1.out⟩
/-- down.Bad. -/
theorem bad_all (Q : List Raw) (L : List Ent) (caps : List Bm) (v cv : Value) (A : Nat → Addr) (m : Int) (w : World) (hn : L.length ≤ 1000) (hcn : caps.length ≤ 1000000) (sh : ∀ e, e ∈ L → ShE e) (hs : shortL caps) (S : Te w A m) (I : Ixs w v Q L) (hc : MsAt w cv caps) :
    Calls Tryz.prog 19 #[v, cv] w fun e w' => ∃ a c x, e = .returned (.tuple #[.slice a (bO Q L caps).length c, x]) ∧ BsAt w' (.slice a (bO Q L caps).length c) (bO Q L caps) ∧ ErrAt w' A x (bF Q L caps).1 (bF Q L caps).2 ∧ Below w.heap.size w w' := by
  by_cases h0 : (bF Q L caps).1 = 0
  · refine (bad_good Q L caps v cv A m w hn hcn sh hs S I hc h0).mono ?_
    rintro e w' ⟨g, rfl, hM⟩
    have hb : bO Q L caps = bdL Q L caps := if_pos h0
    rw [hb]
    refine ⟨_, _, _, rfl, ⟨_, _, rfl, fun _ => ⟨g, rfl, hM.hp⟩⟩, ?_, hM.bl⟩
    have h2 : (bF Q L caps).2 = none := by
      obtain ⟨k0, k1⟩ := bF_chk h0
      have e : bF Q L caps = chkP caps := if_pos k0
      rw [e]
      cases h3 : fstE (capE caps) caps.length with
      | none => exact h3
      | some j =>
        have h4 : codeE (capE caps) caps.length = 0 := k1
        rw [codeE_some h3] at h4
        exact absurd h4 (fstE_of_some h3).2.1
    rw [h0, h2]
    rfl
  · refine (bad_bad Q L caps v cv A m w hn hcn sh hs S I hc h0).mono ?_
    rintro e w' ⟨T, a, rfl, he, hb⟩
    have hb' : bO Q L caps = [] := if_neg h0
    rw [hb']
    exact ⟨none, 0, _, rfl, ⟨none, 0, rfl, fun h => absurd rfl h⟩, he, hb⟩
end Ve
end Go.Proofs.YtjhiajeeijfkeaaGreatDoor

/-
  fromItDown of package down: the places of a module and of the older ones of its path, from the greatest on; marked: the modules of the entries that are marked.
-/
namespace Go.Proofs.YtjhiajeeijfkeaaGreatDoor
open Go.RowKit Go.Shelf
namespace Ve

attribute [local go_sem] Oper.semAt_some

/-- A place of an index. -/
abbrev Px (n : Nat) : Type := { i : Nat // i < n }
def encX {n : Nat} (x : Px n) : Array Value := #[.int .i64 (x.1 : Int)]
def atX {n : Nat} (l : List (Px n)) : List Nat := l.map fun x => x.1
theorem atX_app {n : Nat} (l : List (Px n)) (x : Px n) : atX (l ++ [x]) = atX l ++ [x.1] := by simp [atX]
theorem gr_of_below {A B : World} (h : Below A.heap.size A B) : A.grownBy B none := ⟨h.os, h.tape, h.output, h.size, fun b hb _ => h.block b hb⟩
set_option maxHeartbeats 1000000 in
theorem fid_any (a : Option Addr) (len cap : Nat) (p q : ByteArray) (w : World) :
    Calls Tryz.prog 26 #[.slice a len cap, .agg #[.string p, .string q]] w fun e w' => e = .returned (.func (.func 50) #[] #[.pointer (some ⟨w.heap.size, 0, none⟩), .pointer (some ⟨w.heap.size + 1, 0, none⟩)]) ∧ w' = (w.alloc (.cells #[.slice a len cap] 22)).alloc (.cells #[.string p, .string q] 36) := by
  go_enter Tryz.func26, Tryz.ntmps26
  go_wp2_with fail
  go_ret
  exact ⟨rfl, rfl⟩
set_option maxRecDepth 100000 in
set_option maxHeartbeats 4000000 in
theorem fid1_in (n : Nat) (hn : 2 ≤ n) (l B1 B2 n1 b o c : Nat) (Q : List Raw) (r : Bm) (kq : Nat) (hL : Q.length ≤ 1000000) (hkq : idxOf (isM r) Q = (kq : Int)) (E : Nat → Prop) (J Jx : List (Px Q.length) → World → Prop)
    (hJ : ∀ s A B, J s A → Below A.heap.size A B → J s B)
    (hY : ∀ pre x W, J pre W → pre.length < Q.length → YieldAt Fence.wide (n - 1) Tryz.prog l (encX x) W fun e W' =>
      (e = .returned (.bool true) ∧ J (pre ++ [x]) W' ∧ Kx n1 E W W') ∨ (e = .returned (.bool false) ∧ Jx (pre ++ [x]) W'))
    (W : World) (hn1 : n1 ≤ W.heap.size) (h1 : W.cell? ⟨B1, 0, none⟩ = some (.slice (some ⟨b, o, none⟩) Q.length c)) (h2 : W.cell? ⟨B2, 0, none⟩ = some (.string r.1)) (h3 : W.cell? ⟨B2, 1, none⟩ = some (.string r.2)) (hes : EsAt W (.slice (some ⟨b, o, none⟩) Q.length c) Q)
    (b1 : B1 < n1) (e1 : ¬ E B1) (b2 : B2 < n1) (e2 : ¬ E B2) (b3 : b < n1) (e3 : ¬ E b) (h0 : J [] W) :
    CallsIn Fence.wide n Tryz.prog 50 #[.func (.yield l) #[] #[], .pointer (some ⟨B1, 0, none⟩), .pointer (some ⟨B2, 0, none⟩)] W fun e W' => (∃ v, e = .returned v) ∧
      ((∃ ys : List (Px Q.length), (∃ t, t ≤ kq + 1 ∧ atX ys = dnL kq t ∧ (t = kq + 1 ∨ ∀ (h : kq - t < Q.length), Q[kq - t].1.1 ≠ r.1)) ∧ J ys W') ∨ (∃ pre : List (Px Q.length), (∃ t, t ≤ kq ∧ atX pre = dnL kq (t + 1) ∧ ∀ (h : kq - t < Q.length), Q[kq - t].1.1 = r.1) ∧ Jx pre W')) := by
  have hn1' : 1 ≤ n := by omega
  obtain ⟨hkl, -⟩ := idx_is hkq
  obtain ⟨p, q⟩ := r
  simp only at h2 h3
  have HF := hid (find_any Q (p, q) _ W hL hes)
  rw [hkq] at HF
  have HP := hid (fun k (h : k < Q.length) => (es_all hes h).2.1)
  clear hes hkq
  refine callsIn_of_wp Tryz.func50 rfl trivial ?_ rfl
  simp only [Tryz.ntmps50, List.size_toArray, List.length_cons, List.length_nil, Nat.reduceAdd, Nat.reduceSub, Array.replicate_succ, Array.replicate_zero, List.push_toArray, List.append_toArray, List.nil_append, List.cons_append]
  gi_wp2_with (refine ⟨trivial, ?_⟩; gi_at_call 49; refine (callsIn_wide.2 HF.out).mono ?_; rintro e W1 ⟨rfl, hb1⟩)
  have HJ1 := hid (hJ _ _ _ h0 hb1)
  have HK1 := hid (show Kx n1 E W W1 from Kx.below hb1 hn1)
  gi_loopw [4] (fun iv wr => ∃ (k t : Nat) (pre : List (Px Q.length)), k + t = kq + 1 ∧ iv = ivD k ∧ Hid (pre.length = t ∧ atX pre = dnL kq t ∧ J pre wr ∧ Kx n1 E W wr))
    (fun iv _ => (intOf iv + 1).toNat)
  case atStart => exact ⟨kq + 1, 0, [], by omega, rfl, hid ⟨rfl, rfl, HJ1.out, HK1.out⟩⟩
  case round =>
    clear HJ1 HK1
    obtain ⟨k, t, pre, hkt, rfl, HJ⟩ := hrel
    cases k with
    | zero =>
      unfold ivD
      gi_wp2
      gi_quiet (fail)
      have HJq := hid (hJ _ _ _ HJ.out.2.2.1 (below_drawn_of (Below.refl _ _) nq))
      gi_wp2
      go_end0
      exact ⟨⟨_, rfl⟩, .inl ⟨pre, ⟨t, by omega, HJ.out.2.1, Or.inl (by omega)⟩, HJq.out⟩⟩
    | succ k =>
      have hkl2 : k < Q.length := by omega
      have c1 := HJ.out.2.2.2.cell h1 b1 e1
      have c2 := HJ.out.2.2.2.cell h2 b2 e2
      have c3 := HJ.out.2.2.2.cell h3 b2 e2
      have c4 := HJ.out.2.2.2.cell (HP.out k hkl2) b3 e3
      have hkI : (k : Int) < (Q.length : Int) := by omega
      have hk0 : (0 : Int) ≤ (k : Int) := by omega
      have hw1 : wrap64 ((k : Int) - 1) = (k : Int) - 1 := IntWalk.wrap64_in _ (by omega)
      have HNX := hid (ivD_next k)
      have hkt2 : kq - t = k := by omega
      have HPT := hid (show ∀ (h : kq - t < Q.length), Q[kq - t].1.1 = (Q[k]'hkl2).1.1 from fun h => by congr 3)
      unfold ivD
      by_cases he : (Q[k]'hkl2).1.1 = p
      · have HE := hid he
        rw [he] at c4
        have hs := str_refl p
        gi_wp2
        gi_quiet (fail)
        have hJq := hJ _ _ _ HJ.out.2.2.1 (below_drawn_of (Below.refl _ _) nq)
        obtain ⟨fn, tmps, assign, body, hy, hR⟩ := hY pre ⟨k, hkl2⟩ _ hJq (by have := HJ.out.1; omega)
        unfold encX at hy
        have HKq := hid (show Kx n1 E W (wr.drewN nq) from HJ.out.2.2.2.trans ⟨rfl, rfl, rfl, Nat.le_refl _, fun _ _ _ => rfl⟩)
        clear c1 c2 c3 c4 he
        gi_wp2
        refine hR.mono ?_
        rintro e W3 (⟨rfl, hJ3, hk3⟩ | ⟨rfl, hJx3⟩)
        · gi_wp2
          go_roundw
          case rel => exact ⟨k, t + 1, pre ++ [⟨k, hkl2⟩], by omega, HNX.out, hid ⟨by have := HJ.out.1; simp; omega, by rw [atX_app, HJ.out.2.1]; show dnL kq t ++ [k] = dnL kq t ++ [kq - t]; rw [hkt2], hJ3, HKq.out.trans hk3⟩⟩
          case measure => first | (simp [intOf]; done) | (simp [intOf]; omega)
        · gi_wp2
          refine bodyPost_ret (results_none rfl _ _ _) rfl ?_
          exact ⟨⟨_, rfl⟩, .inr ⟨_, ⟨t, by omega, by rw [atX_app, HJ.out.2.1]; show dnL kq t ++ [k] = dnL kq t ++ [kq - t]; rw [hkt2], fun h => by rw [HPT.out h]; exact HE.out⟩, hJx3⟩⟩
      · have HE := hid he
        have hs := str_ne he
        generalize (Q[k]'hkl2).1.1 = y at *
        clear he
        gi_wp2
        gi_quiet (fail)
        have HJq := hid (hJ _ _ _ HJ.out.2.2.1 (below_drawn_of (Below.refl _ _) nq))
        gi_wp2
        go_end0
        exact ⟨⟨_, rfl⟩, .inl ⟨pre, ⟨t, by omega, HJ.out.2.1, Or.inr (fun h => by rw [HPT.out h]; exact HE.out)⟩, HJq.out⟩⟩
set_option maxRecDepth 100000 in
set_option maxHeartbeats 4000000 in
/-- down.marked. -/
theorem marked_any (Q : List Raw) (O : List Bool) (v : Value) (g c2 : Nat) (w : World) (hL : Q.length ≤ 1000) (hO : O.length = Q.length) (hv : EsAt w v Q) (hg : w.heap[g]? = some (.cells (bwc O) 4 (0, 0))) :
    Calls Tryz.prog 27 #[v, .slice (some ⟨g, 0, none⟩) Q.length c2] w fun e w' => ∃ u, e = .returned u ∧ w'.ownsRow w.heap.size 36 2 u (selO O (Q.map fun r => r.1)).length (flatM (selO O (Q.map fun r => r.1))) ∧ Below w.heap.size w w' := by
  have HES := hid (fun W (h : Below w.heap.size w W) => hv.below h)
  have HHP := hid hg
  have HOL := hid hO
  have HUM := hid (fun i (hi : i < Q.length) (hi' : i < (Q.map fun r => r.1).length) => show (Q.map fun r => r.1)[i] = Q[i].1 by simp)
  have HUL := hid (show (Q.map fun r => r.1).length = Q.length by simp)
  obtain ⟨i0, hi0, hz0, hz1, hz2⟩ := info_parts infoMod
  obtain ⟨a, c, hv1, -⟩ := id hv
  subst hv1
  clear hv hg hO
  generalize (Q.map fun r => r.1) = U at *
  go_enter Tryz.func27, Tryz.ntmps27
  go_wp2_with fail
  go_loopw [5, 10] (fun ov iv wr => ∃ i : Nat, i ≤ Q.length ∧ iv = .int .i64 i ∧ Hid (wr.ownsRow w.heap.size 36 2 ov (selO (O.take i) (U.take i)).length (flatM (selO (O.take i) (U.take i)))) ∧ Hid ((selO (O.take i) (U.take i)).length ≤ i) ∧ Hid (Below w.heap.size w wr)) (fun _ iv _ => Q.length - (intOf iv).toNat)
  case atStart => exact ⟨0, Nat.zero_le _, rfl, hid (by simp only [List.take_zero, selO]; exact World.ownsRow_nil _ _ _ _), hid (by simp [selO]), hid (Below.refl _ _)⟩
  case round =>
    obtain ⟨i, hi, rfl, HOW, HSL, HBr⟩ := hrel
    by_cases hlt : i < Q.length
    · have hiI : (i : Int) < (Q.length : Int) := by omega
      have hii : (0 : Int) ≤ (i : Int) := by omega
      have HLI := hid hlt
      have hiU : i < U.length := by rw [HUL.out]; exact hlt
      have hiO : i < O.length := by rw [HOL.out]; exact hlt
      have m0 := cell_below HBr.out (bwc_at HHP.out hiO)
      have hes := HES.out _ HBr.out
      obtain ⟨b, o, hab⟩ : ∃ b o, a = some ⟨b, o, none⟩ := by
        obtain ⟨a', c', e, _, _, h⟩ := hes
        injection e with q1 q2 q3
        obtain ⟨b, o, h4, _⟩ := h (fun h => by rw [h] at hlt; simp at hlt)
        exact ⟨b, o, by rw [q1, h4]⟩
      subst hab
      obtain ⟨hsl, x0, x1, x2, x3, x4⟩ := es_all hes hlt
      have HST := hid (selO_take O U i hiO hiU)
      rw [HUM.out i hlt hiU] at HST
      generalize hx : Q[i] = x at *
      obtain ⟨⟨p, q⟩, rv, pv, bk⟩ := x
      obtain ⟨⟨ra, rn, rc, hrv⟩, pa, pn, pc, hpv⟩ := hsl
      simp only at hrv hpv x0 x1 x2 x3 x4 HST
      subst hrv
      subst hpv
      have HBa := hid ((Below.refl wr.heap.size wr).alloc (Nat.le_refl _) (.cells #[.string p, .string q, .slice ra rn rc, .slice pa pn pc, .bool bk] 55))
      have mz := cell_below HBa.out m0
      have HBb := hid (HBr.out.trans (HBa.out.mono HBr.out.size))
      have HNW := hid (heap_new wr (.cells #[.string p, .string q, .slice ra rn rc, .slice pa pn pc, .bool bk] 55))
      clear hes hlt hx
      cases hoi : O[i]
      · rw [hoi] at mz HST
        have HST2 := hid (show selO (O.take (i + 1)) (U.take (i + 1)) = selO (O.take i) (U.take i) by rw [HST.out]; simp)
        have HOW2 := hid (owns_below HOW.out HBa.out)
        clear hoi m0
        go_wp2_with fail
        go_roundw
        case rel => first | exact ⟨i + 1, HLI.out, nr_idx i, hid (by rw [HST2.out]; exact HOW2.out), hid (by rw [HST2.out]; have := HSL.out; omega), HBb⟩ | exact ⟨i + 1, HLI.out, nx_idx HLI.out (by omega), hid (by rw [HST2.out]; exact HOW2.out), hid (by rw [HST2.out]; have := HSL.out; omega), HBb⟩
        case measure => first | exact nr_meas HLI.out | exact nx_meas HLI.out (by omega)
      · rw [hoi] at mz HST
        have HST2 := hid (show selO (O.take (i + 1)) (U.take (i + 1)) = selO (O.take i) (U.take i) ++ [(p, q)] by rw [HST.out]; simp)
        obtain ⟨SX, hSX⟩ : ∃ SX, selO (O.take i) (U.take i) = SX := ⟨_, rfl⟩
        rw [hSX] at HOW HST2 HSL
        have HOW2 := hid (owns_below HOW.out HBa.out)
        have hsx := HSL.out
        have hwz := HBb.out.size
        clear hoi hSX HST m0
        go_wp2_with (at_builtin; refine wpList_append_own _ rfl _ _ 23 rfl w.heap.size 36 i0 _ 2 32 Tryz.underlying23 hi0 hz0 hz1 hz2 rfl (by decide) _ _ _ rfl (HOW2.out.alloc _) ⟨wr.heap.size + 1, 0, none⟩ 1 1 [.string p, .string q] rfl rfl ?c1 ?c2 ?c3 ?c4 ?c5 ?_)
        case c1 =>
          intro t u ht
          match t, ht with
          | 0, ht => simp at ht; subst ht; simp [Addr.add]
          | 1, ht => simp at ht; subst ht; simp [Addr.add]
          | t + 2, ht => simp at ht
        case c2 => intro u hu; simp at hu; rcases hu with rfl | rfl <;> rfl
        case c3 => unfold maxLen; omega
        case c4 => omega
        case c5 => first | omega | (simp; omega) | (simp at hwz ⊢; omega)
        intro v' w6 hown hgrow _
        have HR3 := hid (rel_app2 HBb.out.size HBb.out HOW2.out (Below.refl _ _) hgrow)
        have HO4 := hid (show w6.ownsRow w.heap.size 36 2 v' (SX ++ [(p, q)]).length (flatM (SX ++ [(p, q)])) by rw [List.length_append, flatM_app]; exact hown)
        clear hown hgrow
        go_wp2_with fail
        go_roundw
        case rel => first | exact ⟨i + 1, HLI.out, nr_idx i, hid (by rw [HST2.out]; exact HO4.out), hid (by rw [HST2.out]; simp; omega), HR3⟩ | exact ⟨i + 1, HLI.out, nx_idx HLI.out (by omega), hid (by rw [HST2.out]; exact HO4.out), hid (by rw [HST2.out]; simp; omega), HR3⟩
        case measure => first | exact nr_meas HLI.out | exact nx_meas HLI.out (by omega)
    · have hiI : ¬ (i : Int) < (Q.length : Int) := by omega
      have HOF := hid (show wr.ownsRow w.heap.size 36 2 u5 (selO O U).length (flatM (selO O U)) by
        have h := HOW.out
        rw [List.take_of_length_le (by rw [HOL.out]; omega), List.take_of_length_le (by rw [HUL.out]; omega)] at h
        exact h)
      clear hlt HOW HSL
      go_wp2_with fail
      go_ret
      exact ⟨_, rfl, HOF.out, HBr.out⟩
end Ve
end Go.Proofs.YtjhiajeeijfkeaaGreatDoor

/-
  A row of modules that a call owns, changed where it lies: one of them set, the last ones cleared; a sorted row without what comes twice (plain).
-/
namespace Go.Proofs.YtjhiajeeijfkeaaGreatDoor
open Go.RowKit
namespace Ve

/-- The row of modules in block g. -/
structure Mw (w0 W : World) (g : Nat) (D : List Bm) : Prop where
  bl : Below w0.heap.size w0 W
  lo : w0.heap.size ≤ g
  hi : g < W.heap.size
  fz : ∀ o, W.frozen? ⟨g, o, none⟩ = false
  c0 : ∀ j (h : j < D.length), W.cell? ⟨g, j * 2, none⟩ = some (.string D[j].1)
  c1 : ∀ j (h : j < D.length), W.cell? ⟨g, j * 2 + 1, none⟩ = some (.string D[j].2)
def mcells (m : Bm) : List Value := [.string m.1, .string m.2]
theorem Mw.below {w0 W W' : World} {g : Nat} {D : List Bm} (h : Mw w0 W g D) (hb : Below W.heap.size W W') : Mw w0 W' g D :=
  ⟨h.bl.trans (hb.mono h.bl.size), h.lo, Nat.lt_of_lt_of_le h.hi hb.size, fun o => by rw [hb.frozen h.hi]; exact h.fz o, fun j hj => cell_below hb (h.c0 j hj), fun j hj => cell_below hb (h.c1 j hj)⟩
theorem Mw.at {w0 W : World} {g : Nat} {D : List Bm} (h : Mw w0 W g D) {j : Nat} {r : Bm} (hj : D[j]? = some r) :
    W.cell? ⟨g, j * 2, none⟩ = some (.string r.1) ∧ W.cell? ⟨g, j * 2 + 1, none⟩ = some (.string r.2) := by
  obtain ⟨hl, rfl⟩ := List.getElem?_eq_some_iff.1 hj
  exact ⟨h.c0 j hl, h.c1 j hl⟩
theorem Mw.cell {w0 W : World} {g : Nat} {D : List Bm} (h : Mw w0 W g D) (j : Nat) (hj : j < D.length) (c : Nat) (hc : c < 2) : W.cell? ⟨g, j * 2 + c, none⟩ = (mcells D[j])[c]? := by
  match c, hc with
  | 0, _ => exact h.c0 j hj
  | 1, _ => exact h.c1 j hj
theorem Mw.of_cells {w0 W : World} {g : Nat} {D : List Bm} (h1 : Below w0.heap.size w0 W) (h2 : w0.heap.size ≤ g) (h3 : g < W.heap.size) (h4 : ∀ o, W.frozen? ⟨g, o, none⟩ = false)
    (h : ∀ j (hj : j < D.length) c (_ : c < 2), W.cell? ⟨g, j * 2 + c, none⟩ = (mcells D[j])[c]?) : Mw w0 W g D :=
  ⟨h1, h2, h3, h4, fun j hj => h j hj 0 (by omega), fun j hj => h j hj 1 (by omega)⟩
theorem Mw.ms {w0 W : World} {g : Nat} {D : List Bm} (h : Mw w0 W g D) {cap : Nat} (hc : D.length ≤ cap) : MsAt W (.slice (some ⟨g, 0, none⟩) D.length cap) D :=
  ⟨_, cap, rfl, hc, fun _ => ⟨g, 0, rfl, fun j hj => ⟨by rw [Nat.zero_add]; exact h.c0 j hj, by rw [Nat.zero_add]; exact h.c1 j hj⟩⟩⟩
theorem setCells_belowM {w0 W : World} {g : Nat} (h : Below w0.heap.size w0 W) (hg : w0.heap.size ≤ g) : ∀ (vs : List Value) (o : Nat), Below w0.heap.size w0 (W.setCells g o vs) := by
  intro vs
  induction vs generalizing W with
  | nil => intro o; exact h
  | cons v r ih => intro o; exact ih (h.setCell hg v) (o + 1)
theorem Mw.setAt {w0 W : World} {g : Nat} {D : List Bm} (h : Mw w0 W g D) (i : Nat) (hi : i < D.length) (r : Bm) : Mw w0 (W.setCells g (i * 2) (mcells r)) g (D.set i r) := by
  refine Mw.of_cells (setCells_belowM h.bl h.lo _ _) h.lo (by rw [Go.Sort.size_setCells]; exact h.hi) (fun o => by rw [World.frozen?_setCells]; exact h.fz o) (fun j hj c hc => ?_)
  have hj' : j < D.length := by simpa using hj
  by_cases e : j = i
  · subst e
    have := World.cell?_setCells_in g (mcells r) (j * 2) W (fun t ht => by
      have h9 : t < 2 := ht
      rw [h.cell j hj' t h9]
      match t, h9 with
      | 0, _ => rfl
      | 1, _ => rfl) c hc
    rw [this]
    simp
    exact (List.getElem?_eq_getElem (show c < (mcells r).length from hc)).symm
  · rw [World.cell?_setCells_out g (mcells r) (i * 2) W _ (fun _ _ => by
      show j * 2 + c < i * 2 ∨ i * 2 + 2 ≤ j * 2 + c
      omega), h.cell j hj' c hc]
    rw [List.getElem_set_ne (by omega)]
theorem Mw.cleared {w0 W : World} {g : Nat} {D : List Bm} (h : Mw w0 W g D) (n : Nat) (hn : n ≤ D.length) (zs : List Value) : Mw w0 (W.setCells g (n * 2) zs) g (D.take n) := by
  refine Mw.of_cells (setCells_belowM h.bl h.lo _ _) h.lo (by rw [Go.Sort.size_setCells]; exact h.hi) (fun o => by rw [World.frozen?_setCells]; exact h.fz o) (fun j hj c hc => ?_)
  have hj' : j < n := by simp at hj; omega
  rw [World.cell?_setCells_out g zs (n * 2) W _ (fun _ _ => Or.inl (by show j * 2 + c < n * 2; omega)), h.cell j (by omega) c hc, List.getElem_take]
theorem run_clear_mw {w0 W : World} {g : Nat} {D : List Bm} (h : Mw w0 W g D) (n : Nat) (hn : n < D.length) :
    ∃ zs, ∀ ty c, (Builtin.clear_ #[23] ty #[.slice (some ⟨g, n * 2, none⟩) (D.length - n) c]).run Tryz.prog W = .ok (.tuple #[]) (W.setCells g (n * 2) zs) := by
  have hzl : (Builtin.zeroCells (Value.agg #[.string ⟨#[]⟩, .string ⟨#[]⟩]).cells (D.length - n)).toList.length = (D.length - n) * 2 := by
    simp [Builtin.zeroCells, Value.cells]
  refine ⟨(Builtin.zeroCells (Value.agg #[.string ⟨#[]⟩, .string ⟨#[]⟩]).cells (D.length - n)).toList, fun ty c => ?_⟩
  have hst := run_storeCells_cells (P := Tryz.prog) g (n * 2) (Builtin.zeroCells (Value.agg #[.string ⟨#[]⟩, .string ⟨#[]⟩]).cells (D.length - n)).toList 0 W (fun j hj => by
    rw [hzl] at hj
    have e : n * 2 + 0 + j = (n + j / 2) * 2 + j % 2 := by omega
    rw [e, h.cell (n + j / 2) (by omega) (j % 2) (by omega)]
    have h9 : j % 2 < 2 := by omega
    match j % 2, h9 with
    | 0, _ => rfl
    | 1, _ => rfl) (fun j _ => h.fz _) (fun v hv => by
    simp only [Builtin.zeroCells, Value.cells] at hv
    simp at hv
    obtain ⟨t, _, rfl⟩ := hv
    have h9 : t % 2 < 2 := by omega
    match t % 2, h9 with
    | 0, _ => rfl
    | 1, _ => rfl)
  simp only [Nat.add_zero] at hst
  obtain ⟨m, hm⟩ : ∃ m, D.length - n = m + 1 := ⟨D.length - n - 1, by omega⟩
  rw [hm] at hst ⊢
  have hu := Tryz.underlying23
  have hv : ∀ w, (zeroValue 36).run Tryz.prog w = .ok (.agg #[.string ⟨#[]⟩, .string ⟨#[]⟩]) w := fun w => Tryz.zeroValue36 w
  simp [Builtin.clear_, run_underlying hu, hv, hst]
/-- Of a row that is owned. -/
theorem own_mw {w0 W : World} {v : Value} {L : List Bm} (h : W.ownsRow w0.heap.size 36 2 v L.length (flatM L)) (hb : Below w0.heap.size w0 W) (hL : L ≠ []) : ∃ g cap, v = .slice (some ⟨g, 0, none⟩) L.length cap ∧ L.length ≤ cap ∧ cap ≤ maxLen ∧ Mw w0 W g L := by
  obtain ⟨_, ⟨_, hn0⟩ | ⟨g, cap, cur, hv, hg, hblk, hcap, hcm, hcs, hct⟩⟩ := h
  · exact absurd (List.length_eq_zero_iff.1 hn0) hL
  · refine ⟨g, cap, hv, hcap, hcm, Mw.of_cells hb hg (lt_of_blk hblk) (fun o => by simp [World.frozen?, hblk]) (fun j hj c hc => ?_)⟩
    have h1 := flatM_get L j c hj hc
    rw [← hct, List.getElem?_take, if_pos (by omega)] at h1
    simp only [World.cell?, hblk]
    unfold mcells
    rw [← h1]; simp

/-- Sorted as newestFirst has it. -/
def srtM (D : List Bm) : Prop := D.Pairwise nfW
/-- What is kept of the first m: of each path the first one. -/
structure CpM (D : List Bm) (m : Nat) (E : List Bm) : Prop where
  ri : rising E
  sub : ∀ e, e ∈ E → e ∈ D.take m
  top : ∀ x, x ∈ D.take m → ∃ e, e ∈ E ∧ e.1 = x.1 ∧ ordV (vb x) (vb e) ≤ 0
  len : E.length ≤ m
theorem mem_take_at {D : List Bm} {m : Nat} {x : Bm} (h : x ∈ D.take m) : ∃ i, ∃ hi : i < D.length, i < m ∧ D[i] = x := by
  obtain ⟨i, hi, e⟩ := List.mem_iff_getElem.1 h
  rw [List.getElem_take] at e
  simp at hi
  exact ⟨i, by omega, by omega, e⟩
theorem take_snocM {D : List Bm} {m : Nat} (hm : m < D.length) {x : Bm} : x ∈ D.take (m + 1) ↔ x ∈ D.take m ∨ x = D[m] := by
  rw [List.take_succ_eq_append_getElem hm, List.mem_append, List.mem_singleton]
theorem CpM.start {D : List Bm} (hD : 0 < D.length) (hr : ∀ r, r ∈ D → Rt r) : CpM D 1 (D.take 1) := by
  match D, hD with
  | r :: R, _ => exact ⟨List.pairwise_singleton _ _, fun t h => h, fun x hx => ⟨x, hx, rfl, by
      have : x = r := by simpa using hx
      subst this
      rw [(ordV_zero (hr x (by simp)).ver (hr x (by simp)).ver).2 rfl]; omega⟩, by simp⟩
theorem CpM.same {D E : List Bm} {m : Nat} (h : CpM D (m + 1) E) (hs : srtM D) (_hr : ∀ r, r ∈ D → Rt r) (hm : m + 1 < D.length) (he : D[m + 1].1 = (D[m]'(by omega)).1) : CpM D (m + 1 + 1) E := by
  have hp := List.pairwise_iff_getElem.1 hs
  refine ⟨h.ri, fun e he => (take_snocM hm).2 (Or.inl (h.sub e he)), fun x hx => ?_, by have := h.len; omega⟩
  rcases (take_snocM hm).1 hx with hx | rfl
  · exact h.top x hx
  · obtain ⟨e, h1, h2, _⟩ := h.top (D[m]'(by omega)) ((take_snocM (by omega)).2 (Or.inr rfl))
    obtain ⟨i, hi, him, rfl⟩ := mem_take_at (h.sub e h1)
    refine ⟨D[i], h1, h2.trans he.symm, ?_⟩
    rcases hp i (m + 1) hi hm him with h3 | ⟨_, h3⟩
    · rw [h2, ← he, lt_irrefl] at h3; cases h3
    · exact h3
theorem srt_strictM {D : List Bm} (hs : srtM D) {i k : Nat} (hik : i ≤ k) (hk : k + 1 < D.length) (hne : D[k + 1].1 ≠ (D[k]'(by omega)).1) : lt (D[i]'(by omega)).1 D[k + 1].1 = true := by
  have hp := List.pairwise_iff_getElem.1 hs
  have h2 : lt (D[k]'(by omega)).1 D[k + 1].1 = true := by
    rcases hp k (k + 1) (by omega) hk (by omega) with h | ⟨e, _⟩
    · exact h
    · exact absurd e.symm hne
  rcases Nat.lt_or_ge i k with h | h
  · rcases hp i k (by omega) (by omega) h with h1 | ⟨e, _⟩
    · exact lt_trans h1 h2
    · rw [e]; exact h2
  · have : i = k := by omega
    subst this; exact h2
theorem CpM.more {D E : List Bm} {m : Nat} (h : CpM D (m + 1) E) (hs : srtM D) (hr : ∀ r, r ∈ D → Rt r) (hm : m + 1 < D.length) (he : D[m + 1].1 ≠ (D[m]'(by omega)).1) : CpM D (m + 1 + 1) (E ++ [D[m + 1]]) := by
  refine ⟨?_, fun e h1 => ?_, fun x hx => ?_, by have := h.len; simp; omega⟩
  · unfold rising
    rw [List.pairwise_append]
    refine ⟨h.ri, List.pairwise_singleton _ _, fun a ha b hb => ?_⟩
    rw [List.mem_singleton.1 hb]
    obtain ⟨i, hi, him, rfl⟩ := mem_take_at (h.sub a ha)
    exact srt_strictM hs (by omega) hm he
  · rcases List.mem_append.1 h1 with h1 | h1
    · exact (take_snocM hm).2 (Or.inl (h.sub e h1))
    · exact (take_snocM hm).2 (Or.inr (List.mem_singleton.1 h1))
  · rcases (take_snocM hm).1 hx with hx | rfl
    · obtain ⟨e, h1, h2⟩ := h.top x hx
      exact ⟨e, List.mem_append_left _ h1, h2⟩
    · have hv := (hr D[m + 1] (List.getElem_mem hm)).ver
      exact ⟨D[m + 1], by simp, rfl, by rw [(ordV_zero hv hv).2 rfl]; omega⟩
theorem CpM.plain {D : List Bm} {m : Nat} (h : CpM D (m + 1) (D.take (m + 1))) (hs : srtM D) (hr : ∀ r, r ∈ D → Rt r) (hm : m + 1 < D.length) (he : D[m + 1].1 ≠ (D[m]'(by omega)).1) : CpM D (m + 1 + 1) (D.take (m + 1 + 1)) := by
  have := h.more hs hr hm he
  rw [List.take_succ_eq_append_getElem hm]
  exact this
/-- All kept: joined. -/
theorem CpM.jn {D E : List Bm} (h : CpM D D.length E) (hr : ∀ r, r ∈ D → Rt r) : Jn D E := by
  have hs : ∀ e, e ∈ E → e ∈ D := fun e he => by have := h.sub e he; rw [List.take_length] at this; exact this
  exact ⟨h.ri, fun e he => ⟨hs e he, (hr e (hs e he)).ok⟩, fun x hx _ => h.top x (by rw [List.take_length]; exact hx)⟩
end Ve
end Go.Proofs.YtjhiajeeijfkeaaGreatDoor

/-
  How often the tape was asked never grows less: no step of the machine takes a draw back.
-/
namespace Go.Proofs.YtjhiajeeijfkeaaGreatDoor
namespace Mo

def Ge {α : Type} (d : Nat) : Result α → Prop
  | .ok _ w => d ≤ w.drawn
  | .halt _ w => d ≤ w.drawn
theorem Ge.le {α : Type} {d d' : Nat} {r : Result α} (h : Ge d r) (hd : d' ≤ d) : Ge d' r := by
  cases r <;> exact Nat.le_trans hd h
theorem ask_ge {α : Type} : ∀ (a : Ask α) (w : World), w.drawn ≤ (w.ask a).2.drawn := fun a => by
  induction a with
  | done a => intro w; exact Nat.le_refl _
  | ask what range k ih =>
    intro w
    unfold World.ask
    dsimp only
    split
    · exact ih 0 w
    · exact Nat.le_trans (Nat.le_succ _) (ih _ { w with drawn := w.drawn + 1 })
theorem sys_ge (w : World) (c : Sys) : w.drawn ≤ (w.sys c).2.drawn := by
  have h := ask_ge (Kernel.perform c w.os) w
  unfold World.sys
  split
  · exact Nat.le_refl _
  · rename_i h2
    rw [h2] at h
    exact h
theorem view_ge {P : Program} {w : World} {at_ : Addr} {u : TypeId} {k : Addr} {v : Value} {b : Bool} {r : World × List Addr} (h : w.viewStore P at_ u k v b = .ok r) : r.1.drawn = w.drawn := by
  unfold World.viewStore at h
  simp only [bind, Except.bind, pure, Except.pure] at h
  repeat' split at h
  all_goals first
    | (cases h; rfl)
    | cases h
theorem far_ge {P : Program} {w : World} {a : Addr} {v : Value} {b : Bool} {r : World × List Addr} (h : w.farStore P a v b = .ok r) : r.1.drawn = w.drawn := by
  unfold World.farStore at h
  split at h
  · split at h
    · rename_i h2
      cases h
      exact view_ge h2
    · cases h
  · cases h
theorem freeze_ge (w : World) (a : Addr) (n : Nat) : (w.freeze a n).drawn = w.drawn := by
  unfold World.freeze
  split <;> rfl
theorem run_ge {α : Type} (P : Program) (s : Sem α) : ∀ w : World, Ge w.drawn (s.run P w) := by
  induction s with
  | pure a => intro w; exact Nat.le_refl _
  | load m a k ih =>
    intro w
    unfold Sem.run
    split
    · exact ih _ w
    · split
      · exact ih _ w
      · exact Nat.le_refl _
  | store m a v k ih =>
    intro w
    cases v
    case agg => exact Nat.le_refl _
    case tuple => exact Nat.le_refl _
    all_goals
      simp only [Sem.run]
      split
      · split
        · exact Nat.le_refl _
        · exact ih _
      · split
        · rename_i h2
          have := far_ge h2
          rw [← this]
          exact ih _
        · exact Nat.le_refl _
  | new o k ih => intro w; exact ih _ { w with heap := w.heap.push o }
  | shape r k ih => intro w; exact ih _ w
  | freeze a n k ih => intro w; have := ih (w.freeze a n); rw [freeze_ge] at this; exact this
  | frozen a k ih => intro w; exact ih _ w
  | getObj r k ih =>
    intro w
    unfold Sem.run
    split
    · exact Nat.le_refl _
    · exact ih _ w
    · exact Nat.le_refl _
  | setObj r o k ih =>
    intro w
    unfold Sem.run
    split
    · exact Nat.le_refl _
    · exact ih { w with heap := w.heap.setIfInBounds r o }
    · exact Nat.le_refl _
  | choose q k ih =>
    intro w
    unfold Sem.run
    split
    · exact ih _ w
    · exact (ih _ { w with drawn := w.drawn + 1 }).le (Nat.le_succ _)
  | sys c k ih => intro w; exact (ih _ _).le (sys_ge w c)
  | program k ih => intro w; exact ih _ w
  | mark m k ih => intro w; exact ih w
  | halt h => intro w; exact Nat.le_refl _
theorem run_ok {α : Type} {P : Program} {s : Sem α} {w w' : World} {a : α} (h : s.run P w = .ok a w') : w.drawn ≤ w'.drawn := by
  have := run_ge P s w
  rw [h] at this
  exact this
theorem run_ha {α : Type} {P : Program} {s : Sem α} {w w' : World} {a : Halt} (h : s.run P w = .halt a w') : w.drawn ≤ w'.drawn := by
  have := run_ge P s w
  rw [h] at this
  exact this
/-- A goroutine's step. -/
def Gs (d : Nat) : GStep → Prop
  | .go _ w _ => d ≤ w.drawn
  | .comm _ _ _ _ w _ => d ≤ w.drawn
  | .spawn _ _ w _ => d ≤ w.drawn
  | .count _ w _ => d ≤ w.drawn
  | .timer _ _ w _ => d ≤ w.drawn
  | .alone _ _ w _ => d ≤ w.drawn
  | .newcoro _ _ _ w _ => d ≤ w.drawn
  | .coroswitch _ _ _ w _ => d ≤ w.drawn
  | .collect _ w _ => d ≤ w.drawn
  | .watch _ w _ => d ≤ w.drawn
  | .ended _ _ _ => True
theorem Gs.le {d d' : Nat} {s : GStep} (h : Gs d s) (hd : d' ≤ d) : Gs d' s := by
  cases s <;> first | trivial | exact Nat.le_trans hd h
theorem Gs.after {d : Nat} {es : Array Event} {s : GStep} (h : Gs d s) : Gs d (s.after es) := by
  cases s <;> exact h
def Ss (d : Nat) : Stepped → Prop
  | .next m => d ≤ m.world.drawn
  | .ended _ _ => True
theorem Ss.le {d d' : Nat} {s : Stepped} (h : Ss d s) (hd : d' ≤ d) : Ss d' s := by
  cases s <;> first | trivial | exact Nat.le_trans hd h
def Mv (d : Nat) : Move → Prop
  | .goroutine m _ => d ≤ m.world.drawn
  | .machine s _ => Ss d s
theorem Mv.le {d d' : Nat} {s : Move} (h : Mv d s) (hd : d' ≤ d) : Mv d' s := by
  cases s
  · exact Nat.le_trans hd h
  · exact Ss.le h hd
theorem dieOf_ge (fr : Frame) (l : List ByteArray) (m : String) (b : Bool) (w : World) : Gs w.drawn (dieOf fr l m b w) := Nat.le_refl _
theorem endThrow_ge (fr : Frame) (m : String) (w : World) : Gs w.drawn (endThrow fr m w) := Nat.le_refl _
theorem endWith_ge (w : World) (fd : Nat) (t : ByteArray) (o : Outcome) (d : Nat) : Gs d (endWith w fd t o) := by
  unfold endWith
  simp only []
  repeat' first
    | trivial
    | split
theorem endPrinting_ge (P : Program) (fr : Frame) (v : Value) (w : World) : Gs w.drawn (endPrinting P fr v w) := by
  unfold endPrinting
  simp only []
  repeat' first
    | trivial
    | exact Nat.le_refl _
    | split
theorem endFatal_ge (P : Program) (fr : Frame) (cs : List Frame) (dy : Option Dying) (m : String) (w : World) : Gs w.drawn (endFatal P fr cs dy m w) := by
  unfold endFatal
  extract_lets
  split
  · exact run_ok (by assumption)
  · trivial
  · trivial
theorem writeOn_ge (P : Program) (fr : Frame) (d : Dying) (f : Fatal) (w : World) : Gs w.drawn (writeOn P fr d f w) := by
  unfold writeOn
  extract_lets
  split
  · trivial
  · extract_lets
    rw [Sem.runT_eq]
    generalize hr : Sem.run P _ w = r
    cases r with
    | ok a w' => exact run_ok hr
    | halt a w' =>
      cases a <;> first | trivial | exact run_ha hr
theorem doReturn_ge (P : Program) (b : Bool) (fr : Frame) (cs : List Frame) (dy : Option Dying) (v : Value) (w : World) : Gs w.drawn (doReturn P b fr cs dy v w) := by
  unfold doReturn
  simp only []
  repeat' first
    | trivial
    | exact Nat.le_refl _
    | split
theorem die_ge (P : Program) (fr : Frame) (d : Dying) (w : World) : Gs w.drawn (die P fr d w) := by
  unfold die
  simp only [Sem.runT_eq]
  repeat' first
    | trivial
    | exact Nat.le_refl _
    | exact writeOn_ge _ _ _ _ _
    | exact endWith_ge _ _ _ _ _
    | exact run_ok (by assumption)
    | refine Gs.after ?_
    | exact (endPrinting_ge _ _ _ _).le (run_ha (by assumption))
    | split
theorem callDeferred_ge (P : Program) (fr : Frame) (cs : List Frame) (dy : Option Dying) (d : Deferred) (w : World) : Gs w.drawn (callDeferred P fr cs dy d w) := by
  unfold callDeferred
  simp only [Sem.runT_eq]
  generalize hr : Sem.run P (invoke d.target d.args) w = r
  cases r with
  | ok a w' =>
    have h2 := run_ok hr
    cases a
    all_goals try dsimp only
    all_goals repeat' first
      | trivial
      | exact h2
      | refine Gs.after ?_
      | (cases ‹Result.ok _ _ = Result.ok _ _› <;> first | exact h2 | trivial)
      | split
  | halt a w' =>
    have h2 := run_ha hr
    cases a
    all_goals try dsimp only
    all_goals repeat' first
      | trivial
      | exact h2
      | refine Gs.after ?_
      | exact (endFatal_ge _ _ _ _ _ _).le h2
      | exact (endThrow_ge _ _ _).le h2
      | split
theorem unwind_ge (P : Program) (b : Bool) (fr : Frame) (cs : List Frame) (dy : Option Dying) (w : World) : Gs w.drawn (unwind P b fr cs dy w) := by
  unfold unwind
  simp only [Sem.runT_eq]
  repeat' first
    | trivial
    | exact Nat.le_refl _
    | exact callDeferred_ge _ _ _ _ _ _
    | exact run_ok (by assumption)
    | refine Gs.after ?_
    | exact endPrinting_ge _ _ _ _
    | exact doReturn_ge _ _ _ _ _ _ _
    | exact (doReturn_ge _ _ _ _ _ _ _).le (run_ok (by assumption))
    | split
theorem early_ge (P : Program) (fr : Frame) (cs : List Frame) (dy : Option Dying) (g : Nat) (w : World) : Gs w.drawn (early P fr cs dy g w) := by
  unfold early
  simp only []
  repeat' first
    | trivial
    | exact Nat.le_refl _
    | (have h9 := run_ok ‹Sem.run P (choose (Question.early g)) w = Result.ok _ _›; exact h9)
    | split
theorem apply_ge (P : Program) (l : Bool) (fr : Frame) (cs : List Frame) (dy : Option Dying) (s : Sem Next) (w : World) : Gs w.drawn (stepG.apply P l fr cs dy s w) := by
  unfold stepG.apply
  have e : (if l = true then s.runT P w #[] else (s.run P w, #[])) = (s.run P w, (if l = true then s.runT P w #[] else (s.run P w, #[])).2) := by
    cases l
    · rfl
    · simp
  simp only []
  rw [e]
  generalize (if l = true then s.runT P w #[] else (s.run P w, #[])).2 = es
  generalize hr : Sem.run P s w = r
  refine Gs.after ?_
  cases r with
  | ok a w' =>
    have h2 := run_ok hr
    cases a
    all_goals try dsimp only
    all_goals repeat' first
      | trivial
      | exact h2
      | exact (endThrow_ge _ _ _).le h2
      | split
  | halt a w' =>
    have h2 := run_ha hr
    cases a
    all_goals try dsimp only
    all_goals repeat' first
      | trivial
      | exact h2
      | exact (endFatal_ge _ _ _ _ _ _).le h2
      | exact (endThrow_ge _ _ _).le h2
      | exact (early_ge _ _ _ _ _ _).le h2
      | (cases ‹Result.halt _ _ = Result.halt _ _› <;> first | exact h2 | exact (early_ge _ _ _ _ _ _).le h2 | trivial)
      | split
theorem oper_ge (P : Program) (l : Bool) (fr : Frame) (cs : List Frame) (dy : Option Dying) (w : World) : Gs w.drawn (stepG.oper P l fr cs dy w) := by
  unfold stepG.oper
  repeat' first
    | trivial
    | exact apply_ge _ _ _ _ _ _ _
    | split
theorem exec_ge (P : Program) (m l : Bool) (fr : Frame) (cs : List Frame) (dy : Option Dying) (w : World) : Gs w.drawn (stepG.exec P m l fr cs dy w) := by
  unfold stepG.exec
  simp only [Sem.runT_eq, Option.elim]
  split
  all_goals try exact Nat.le_refl _
  all_goals repeat' first
    | trivial
    | exact Nat.le_refl _
    | exact apply_ge _ _ _ _ _ _ _
    | exact oper_ge _ _ _ _ _ _
    | exact (doReturn_ge _ _ _ _ _ _ _).le (run_ok (by assumption))
    | exact (apply_ge _ _ _ _ _ _ _).le (run_ok (by assumption))
    | refine Gs.after ?_
    | (have h9 := run_ok (by assumption); exact h9)
    | (have h9 := run_ha (by assumption); exact h9)
    | exact run_ok (by assumption)
    | exact run_ha (by assumption)
    | split
theorem stepG_ge (P : Program) (m l : Bool) (g : Goroutine) (w : World) : Gs w.drawn (stepG P m g w l) := by
  unfold stepG
  repeat' first
    | exact die_ge _ _ _ _
    | exact exec_ge _ _ _ _ _ _ _
    | exact unwind_ge _ _ _ _ _ _
    | split
theorem waiting_ge {rest : Rest} {cases : Array CommCase} {w w' : World} (h : waitingAt rest cases w = some w') : w.drawn ≤ w'.drawn := by
  unfold waitingAt at h
  split at h
  · split at h
    · cases h; exact Nat.le_refl _
    · cases h
  · cases h; exact Nat.le_refl _
theorem comm_ge (P : Program) (rest : Rest) (gs : Array Goroutine) (i : Nat) (g : Goroutine) (cases : Array CommCase) (blocking : Bool) (shape : CommShape) (w : World) : Ss w.drawn (communicate P rest gs i g cases blocking shape w).1 := by
  unfold communicate
  extract_lets
  split
  · trivial
  split
  · split
    · split
      · exact waiting_ge (by assumption)
      · trivial
    · exact Nat.le_refl _
  · split
    · trivial
    · have h9 := run_ok (by assumption)
      try extract_lets
      repeat' first
        | trivial
        | exact h9
        | exact Nat.le_trans h9 (run_ok (by assumption))
        | exact Nat.le_trans h9 (run_ha (by assumption))
        | (have h8 := Nat.le_trans h9 (run_ok (by assumption)); exact h8)
        | split
theorem look_ge (P : Program) (gs : Array Goroutine) (rest : Rest) (w : World) : Ss w.drawn (look P gs rest w) := by
  unfold look
  simp only []
  repeat' first
    | trivial
    | exact run_ok (by assumption)
    | (have h9 := run_ok (by assumption); exact h9)
    | split
theorem serve_ge (P : Program) (m : Machine) (k : Nat) : Ss m.world.drawn (serve P m k) := by
  unfold serve
  simp only []
  repeat' first
    | trivial
    | exact Nat.le_refl _
    | split
theorem drain_ge (w : World) (c : Nat) : w.drawn ≤ (drain w c).2.drawn := by
  unfold drain
  split <;> exact Nat.le_refl _
theorem retime_ge (m : Machine) (k : Nat) (t : Timer) (a b : Nat) : m.world.drawn ≤ (retime m k t a b).2.world.drawn := by
  unfold retime
  cases t.chan with
  | none => exact Nat.le_refl _
  | some c => exact drain_ge m.world c
theorem named_ge {m m0 : Machine} {var : Addr} {f : Nat → Timer → Value × Machine} {r : Value × Machine} (hf : ∀ k t, m0.world.drawn ≤ (f k t).2.world.drawn) (h : timerOp.named m var f = .ok r) : m0.world.drawn ≤ r.2.world.drawn := by
  unfold timerOp.named at h
  split at h
  · cases h; exact hf _ _
  · cases h
theorem timer_ge {m : Machine} {op : TimerOp} {r : Value × Machine} (h : timerOp m op = .ok r) : m.world.drawn ≤ r.2.world.drawn := by
  cases op with
  | new t =>
    unfold timerOp at h
    simp only [] at h
    split at h
    · cases h; exact Nat.le_refl _
    · split at h
      · split at h
        · cases h
        · cases h; exact Nat.le_refl _
      · cases h
  | stop var => exact named_ge (fun k t => retime_ge m k t _ _) h
  | reset var a b =>
    unfold timerOp at h
    simp only [] at h
    split at h
    · rename_i m2 h2
      have e : m.world.drawn ≤ m2.world.drawn := by
        unfold timerOp.opened at h2
        split at h2
        · split at h2
          · cases h2; exact Nat.le_refl _
          · cases h2
        · cases h2; exact Nat.le_refl _
      exact named_ge (fun k t => Nat.le_trans e (retime_ge m2 k t _ _)) h
    · cases h
  | deadline ctx a b c =>
    unfold timerOp at h
    simp only [] at h
    cases h
    exact Nat.le_refl _
theorem runT_ge (P : Program) (m : Machine) (i : Nat) (b : Bool) : Ss m.world.drawn (runT P m i b).1 := by
  simp only [runT]
  generalize m.gs.swapAt! _ _ = gg
  have h := stepG_ge P (i == 0) b gg.1 m.world
  generalize stepG P _ gg.1 m.world b = s at h ⊢
  cases s with
  | go g w es => exact h
  | comm g cs bl sh w es => exact (comm_ge _ _ _ _ _ _ _ _ _).le h
  | spawn g c w es => exact h
  | count g w es =>
    simp only []
    split
    · trivial
    · exact h
  | timer g op w es =>
    simp only []
    split
    · have h2 := timer_ge (by assumption)
      exact Nat.le_trans h h2
    · exact h
    · trivial
    · trivial
  | alone g on w es => exact h
  | newcoro g c d w es => exact h
  | coroswitch g c ex w es =>
    simp only []
    split
    · exact h
    · exact h
    · trivial
  | collect g w es => exact (look_ge _ _ _ _).le h
  | watch g w es => exact h
  | ended o w es => trivial
theorem askOn_ge (P : Program) (m : Machine) : Mv m.world.drawn (askOn P m) := by
  unfold askOn
  simp only []
  split
  · trivial
  have h0 := run_ok (by assumption)
  split
  · exact (serve_ge _ _ _).le h0
  split
  · split
    · exact h0
    · split
      · exact h0
      · split
        · trivial
        · trivial
  · split
    · split
      · trivial
      · have h1 := Nat.le_trans h0 (run_ok (by assumption))
        split
        · exact h1
        · split
          · trivial
          · exact Nat.le_trans h1 (run_ok (by assumption))
    · split
      · trivial
      · have h1 := Nat.le_trans h0 (run_ok (by assumption))
        split
        · trivial
        · have h2 := Nat.le_trans h1 (run_ok (by assumption))
          split
          · exact h2
          · split
            · trivial
            · exact Nat.le_trans h2 (run_ok (by assumption))
      · have h1 := Nat.le_trans h0 (run_ok (by assumption))
        exact h1
      · have h1 := Nat.le_trans h0 (run_ok (by assumption))
        split
        · trivial
        · rename_i h5
          have h6 := run_ok h5
          have h2 := Nat.le_trans h1 h6
          split
          · exact h2
          · split
            · trivial
            · exact Nat.le_trans h2 (run_ok (by assumption))
theorem ask_ge' (P : Program) (m : Machine) : Mv m.world.drawn (ask P m) := by
  unfold ask
  split
  · split
    · trivial
    · have h9 := run_ok (by assumption)
      have h8 := (look_ge P m.gs m.rest _).le h9
      split
      · rename_i h7
        rw [h7] at h8
        exact (askOn_ge _ _).le h8
      · exact h8
    · have h9 := run_ok (by assumption)
      exact (askOn_ge _ _).le h9
  · exact askOn_ge _ _
theorem move_ge (P : Program) (m : Machine) : Mv m.world.drawn (move P m) := by
  unfold move
  repeat' first
    | trivial
    | exact Nat.le_refl _
    | exact ask_ge' P m
    | exact ask_ge' P { m with rest := { m.rest with slice := none } }
    | split
theorem step_ge (P : Program) (m : Machine) : Ss m.world.drawn (step P m) := by
  unfold step stepT
  have h := move_ge P m
  generalize move P m = v at h ⊢
  cases v with
  | goroutine m2 i => exact (runT_ge P m2 i true).le h
  | machine s ops => exact h
theorem runN_ge (P : Program) : ∀ (n : Nat) (m m' : Machine), runN P n m = .next m' → m.world.drawn ≤ m'.world.drawn
  | 0, m, m', h => by
    cases h; exact Nat.le_refl _
  | n + 1, m, m', h => by
    unfold runN at h
    have h2 := step_ge P m
    split at h
    · rename_i m2 h3
      rw [h3] at h2
      exact Nat.le_trans h2 (runN_ge P n _ m' h)
    · rename_i h3
      rw [h] at h2
      exact h2
/-- Of what a call returns with: it has drawn no less. -/
theorem calls_ge {P : Program} {f : FuncId} {args : Array Value} {w : World} {R : Ending → World → Prop} (h : Calls P f args w R) (hr : ∀ e w', R e w' → ∃ v, e = .returned v) : Calls P f args w fun e w' => R e w' ∧ w.drawn ≤ w'.drawn := by
  intro cs
  obtain ⟨e, w', fr, h1, h2, h3, h4⟩ := h cs
  refine ⟨e, w', fr, ⟨h1, ?_⟩, h2, h3, h4⟩
  obtain ⟨v, rfl⟩ := hr e w' h1
  obtain ⟨n, hn⟩ := h2
  exact runN_ge P n _ _ hn
end Mo
end Go.Proofs.YtjhiajeeijfkeaaGreatDoor
