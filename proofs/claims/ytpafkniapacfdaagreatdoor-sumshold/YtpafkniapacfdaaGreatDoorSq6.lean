
import Derived.Test.YtpafkniapacfdaaGreatDoorSq4
import Derived.Test.YtpafkniapacfdaaGreatDoorSq5
import Derived.Test.YtpafkniapacfdaaGreatDoorSq3
import Derived.Test.YtpafkniapacfdaaGreatDoorSq1
import Derived.Deep.Onto
import Derived.Deep.RegionHeld
import Derived.Lib.Builder
namespace Go.Proofs.YtpafkniapacfdaaGreatDoor
namespace Ve
abbrev By := List (Bm × Bm)
def whoT (T : By) : List Bm := T.map fun x => x.1
theorem whoT_len (T : By) : (whoT T).length = T.length := by simp [whoT]
theorem whoT_get {T : By} {k : Nat} (h : k < T.length) : (whoT T)[k]'(by rw [whoT_len]; exact h) = T[k].1 := by simp [whoT]
theorem whoT_mem {T : By} {m : Bm} : m ∈ whoT T ↔ ∃ k, ∃ h : k < T.length, T[k].1 = m := by
  constructor
  · intro h
    obtain ⟨k, hk, e⟩ := List.getElem_of_mem h
    have hk2 : k < T.length := by rw [← whoT_len]; exact hk
    exact ⟨k, hk2, by rw [← whoT_get hk2]; exact e⟩
  · rintro ⟨k, h, rfl⟩
    exact List.mem_map.2 ⟨T[k], List.getElem_mem h, rfl⟩
def cameB (T : By) (m : Bm) : Bool := T.any fun x => decide (x.1.1 = m.1 ∧ x.1.2 = m.2)
theorem cameB_iff {T : By} {m : Bm} : cameB T m = true ↔ m ∈ whoT T := by
  unfold cameB
  rw [List.any_eq_true]
  constructor
  · rintro ⟨x, hx, h⟩
    have h2 := of_decide_eq_true h
    exact List.mem_map.2 ⟨x, hx, Prod.ext h2.1 h2.2⟩
  · intro h
    obtain ⟨x, hx, e⟩ := List.mem_map.1 h
    exact ⟨x, hx, decide_eq_true (by rw [e]; exact ⟨rfl, rfl⟩)⟩
theorem cameB_not {T : By} {m : Bm} (h : cameB T m = false) : m ∉ whoT T := fun hm => by rw [cameB_iff.2 hm] at h; cases h
def comeT (T : By) (m f : Bm) : By := if cameB T m then T else T ++ [(m, f)]
theorem come_yes {T : By} {m f : Bm} (h : cameB T m = true) : comeT T m f = T := by unfold comeT; rw [if_pos h]
theorem come_no {T : By} {m f : Bm} (h : cameB T m = false) : comeT T m f = T ++ [(m, f)] := by unfold comeT; rw [h]; rfl
theorem whoT_app (T : By) (m f : Bm) : whoT (T ++ [(m, f)]) = whoT T ++ [m] := by simp [whoT]
theorem come_mem (T : By) (m f : Bm) : m ∈ whoT (comeT T m f) := by
  cases h : cameB T m
  · rw [come_no h, whoT_app]; simp
  · rw [come_yes h]; exact cameB_iff.1 h
theorem come_sub {T : By} {m f x : Bm} (h : x ∈ whoT T) : x ∈ whoT (comeT T m f) := by
  cases hc : cameB T m
  · rw [come_no hc, whoT_app]; simp [h]
  · rw [come_yes hc]; exact h
theorem come_old (T : By) (m f : Bm) : ∃ R, comeT T m f = T ++ R := by
  cases hc : cameB T m
  · exact ⟨[(m, f)], come_no hc⟩
  · exact ⟨[], by rw [come_yes hc]; simp⟩
theorem nd_len {α : Type} [DecidableEq α] : ∀ (a b : List α), a.Nodup → (∀ x, x ∈ a → x ∈ b) → a.length ≤ b.length
  | [], _, _, _ => Nat.zero_le _
  | x :: a, b, hn, hs => by
    obtain ⟨h1, h2⟩ := List.nodup_cons.1 hn
    have hx := hs x (by simp)
    have h3 := nd_len a (b.erase x) h2 (fun y hy => (List.mem_erase_of_ne (fun e => h1 (by rw [← e]; exact hy))).2 (hs y (List.mem_cons_of_mem _ hy)))
    rw [List.length_erase_of_mem hx] at h3
    have := List.length_pos_of_mem hx
    simp
    omega
structure Bfs (req : Bm → List Bm) (U roots : List Bm) (T : By) (i : Nat) : Prop where
  le : i ≤ T.length
  nd : (whoT T).Nodup
  un : ∀ m, m ∈ whoT T → m ∈ U
  by_ : ∀ k (h : k < T.length), (T[k].1 = T[k].2 ∧ T[k].1 ∈ roots) ∨ ∃ j, ∃ hj : j < k, (T[j]'(Nat.lt_trans hj h)).1 = T[k].2 ∧ T[k].1 ∈ req T[k].2
  cl : ∀ j (h : j < T.length), j < i → ∀ m, m ∈ req T[j].1 → m ∈ whoT T
theorem Bfs.none (req : Bm → List Bm) (U roots : List Bm) : Bfs req U roots [] 0 := ⟨Nat.le_refl _, by simp [whoT], fun m h => by simp [whoT] at h, fun k h => absurd h (Nat.not_lt_zero _), fun j h => absurd h (Nat.not_lt_zero _)⟩
theorem Bfs.len {req : Bm → List Bm} {U roots : List Bm} {T : By} {i : Nat} (h : Bfs req U roots T i) : T.length ≤ U.length := by
  have := nd_len (whoT T) U h.nd h.un
  rw [whoT_len] at this
  exact this
theorem Bfs.come {req : Bm → List Bm} {U roots : List Bm} {T : By} {i : Nat} (h : Bfs req U roots T i) {m f : Bm} (hm : m ∈ U) (hf : (m = f ∧ m ∈ roots) ∨ (f ∈ whoT T ∧ m ∈ req f)) : Bfs req U roots (comeT T m f) i := by
  cases hc : cameB T m
  · rw [come_no hc]
    have hn : m ∉ whoT T := cameB_not hc
    refine ⟨by have := h.le; simp; omega, ?_, ?_, ?_, ?_⟩
    · rw [whoT_app]
      exact List.nodup_append.2 ⟨h.nd, by simp, fun a ha b hb e => by simp at hb; subst hb; subst e; exact hn ha⟩
    · intro x hx
      rw [whoT_app] at hx
      rcases List.mem_append.1 hx with hx | hx
      · exact h.un x hx
      · simp at hx; subst hx; exact hm
    · intro k hk
      by_cases hkT : k < T.length
      · have e : (T ++ [(m, f)])[k] = T[k] := List.getElem_append_left hkT
        rw [e]
        rcases h.by_ k hkT with h1 | ⟨j, hj, h2, h3⟩
        · exact Or.inl h1
        · exact Or.inr ⟨j, hj, by rw [List.getElem_append_left (by omega)]; exact h2, h3⟩
      · have hk2 : k = T.length := by simp at hk; omega
        subst hk2
        have e : (T ++ [(m, f)])[T.length] = (m, f) := by simp
        rw [e]
        rcases hf with hf | ⟨hf, hr⟩
        · exact Or.inl hf
        · obtain ⟨j, hj, ej⟩ := whoT_mem.1 hf
          exact Or.inr ⟨j, hj, by rw [List.getElem_append_left hj]; exact ej, hr⟩
    · intro j hj hji x hx
      rw [whoT_app]
      by_cases hjT : j < T.length
      · rw [List.getElem_append_left hjT] at hx
        exact List.mem_append_left _ (h.cl j hjT hji x hx)
      · have := h.le; omega
  · rw [come_yes hc]; exact h
theorem Bfs.next {req : Bm → List Bm} {U roots : List Bm} {T : By} {i : Nat} (h : Bfs req U roots T i) (hi : i < T.length) (hr : ∀ m, m ∈ req T[i].1 → m ∈ whoT T) : Bfs req U roots T (i + 1) :=
  ⟨hi, h.nd, h.un, h.by_, fun j hj hji m hm => by
    rcases Nat.lt_or_ge j i with h1 | h1
    · exact h.cl j hj h1 m hm
    · have : j = i := by omega
      subst this
      exact hr m hm⟩
inductive Rch (req : Bm → List Bm) (roots : List Bm) : Bm → Prop
  | root {m : Bm} : m ∈ roots → Rch req roots m
  | step {p m : Bm} : Rch req roots p → m ∈ req p → Rch req roots m
theorem Bfs.only {req : Bm → List Bm} {U roots : List Bm} {T : By} {i : Nat} (h : Bfs req U roots T i) : ∀ (n k : Nat) (hk : k < T.length), k ≤ n → Rch req roots T[k].1
  | 0, k, hk, hn => by
    rcases h.by_ k hk with h1 | ⟨j, hj, _⟩
    · exact .root h1.2
    · omega
  | n + 1, k, hk, hn => by
    rcases h.by_ k hk with h1 | ⟨j, hj, h2, h3⟩
    · exact .root h1.2
    · have := h.only n j (by omega) (by omega)
      rw [h2] at this
      exact .step this h3
inductive Wn (req : Bm → List Bm) (roots : List Bm) : Nat → Bm → Prop
  | root {m : Bm} : m ∈ roots → Wn req roots 1 m
  | step {n : Nat} {p m : Bm} : Wn req roots n p → m ∈ req p → Wn req roots (n + 1) m
structure LvOk (req : Bm → List Bm) (roots : List Bm) (T : By) (i : Nat) (V : List Nat) : Prop where
  ln : V.length = T.length
  wn : ∀ k (h : k < T.length) (h' : k < V.length), Wn req roots V[k] T[k].1
  st : ∀ k (h : k < T.length) (h' : k < V.length), (T[k].1 = T[k].2 ∧ V[k] = 1) ∨ ∃ j, ∃ hj : j < k, (T[j]'(Nat.lt_trans hj h)).1 = T[k].2 ∧ V[k] = (V[j]'(Nat.lt_trans hj h')) + 1
  mo : ∀ a b (hb : b < V.length) (hab : a < b), (V[a]'(Nat.lt_trans hab hb)) ≤ V[b]
  nx : ∀ k (h : k < V.length) (hi : i < V.length), V[k] ≤ V[i] + 1
  pr : ∀ j (h : j < T.length) (h' : j < V.length), j < i → ∀ m, m ∈ req T[j].1 → ∃ k, ∃ hk : k < T.length, ∃ hk' : k < V.length, T[k].1 = m ∧ V[k] ≤ V[j] + 1
  rt : ∀ k (h : k < T.length) (h' : k < V.length), T[k].1 ∈ roots → V[k] = 1
theorem LvOk.none (req : Bm → List Bm) (roots : List Bm) : LvOk req roots [] 0 [] :=
  ⟨rfl, fun _ h => absurd h (Nat.not_lt_zero _), fun _ h => absurd h (Nat.not_lt_zero _), fun _ _ hb => absurd hb (Nat.not_lt_zero _), fun _ h => absurd h (Nat.not_lt_zero _), fun _ h => absurd h (Nat.not_lt_zero _), fun _ h => absurd h (Nat.not_lt_zero _)⟩
theorem LvOk.push {req : Bm → List Bm} {roots : List Bm} {T : By} {i : Nat} {V : List Nat} (h : LvOk req roots T i V) {m f : Bm} {l : Nat} (hw : Wn req roots l m)
    (hs : (m = f ∧ l = 1) ∨ ∃ j, ∃ hj : j < T.length, T[j].1 = f ∧ l = (V[j]'(by rw [h.ln]; exact hj)) + 1) (hm : ∀ k (hk : k < V.length), V[k] ≤ l) (hn : ∀ (hi : i < V.length), l ≤ V[i] + 1) (hi0 : i ≤ T.length) (hi1 : i = V.length → l ≤ l + 1) (hr : m ∈ roots → l = 1) : LvOk req roots (T ++ [(m, f)]) i (V ++ [l]) := by
  have hl : V.length = T.length := h.ln
  have gT : ∀ k (hk : k < T.length) (hk' : k < (T ++ [(m, f)]).length), (T ++ [(m, f)])[k] = T[k] := fun k hk _ => List.getElem_append_left hk
  have gV : ∀ k (hk : k < V.length) (hk' : k < (V ++ [l]).length), (V ++ [l])[k] = V[k] := fun k hk _ => List.getElem_append_left hk
  have eT : ∀ (hk' : T.length < (T ++ [(m, f)]).length), (T ++ [(m, f)])[T.length] = (m, f) := fun _ => by simp
  have eV : ∀ (hk' : T.length < (V ++ [l]).length), (V ++ [l])[T.length] = l := fun _ => by
    have : ∀ (n : Nat) (hn : n = V.length) (hk : n < (V ++ [l]).length), (V ++ [l])[n] = l := fun n hn hk => by subst hn; simp
    exact this _ hl.symm _
  refine ⟨by simp [hl], ?_, ?_, ?_, ?_, ?_, ?_⟩
  · intro k hk hk'
    by_cases hT : k < T.length
    · rw [gT k hT hk, gV k (by omega) hk']; exact h.wn k hT _
    · have : k = T.length := by simp at hk; omega
      subst this
      rw [eT hk, eV hk']; exact hw
  · intro k hk hk'
    by_cases hT : k < T.length
    · rw [gT k hT hk, gV k (by omega) hk']
      rcases h.st k hT (by omega) with h1 | ⟨j, hj, h2, h3⟩
      · exact Or.inl h1
      · exact Or.inr ⟨j, hj, by rw [gT j (by omega)]; exact h2, by rw [gV j (by omega)]; exact h3⟩
    · have : k = T.length := by simp at hk; omega
      subst this
      rw [eT hk, eV hk']
      rcases hs with h1 | ⟨j, hj, h2, h3⟩
      · exact Or.inl h1
      · exact Or.inr ⟨j, hj, by rw [gT j hj]; exact h2, by rw [gV j (by omega)]; exact h3⟩
  · intro a b hb hab
    by_cases hB : b < V.length
    · rw [gV b hB hb, gV a (by omega)]; exact h.mo a b hB hab
    · have : b = T.length := by simp at hb; omega
      subst this
      rw [eV hb, gV a (by omega)]
      exact hm a (by omega)
  · intro k hk hi
    by_cases hI : i < V.length
    · rw [gV i hI hi]
      by_cases hK : k < V.length
      · rw [gV k hK hk]; exact h.nx k hK hI
      · have : k = T.length := by simp at hk; omega
        subst this
        rw [eV hk]; exact hn hI
    · have hie : i = T.length := by simp at hi; omega
      subst hie
      rw [eV hi]
      by_cases hK : k < V.length
      · rw [gV k hK hk]; exact Nat.le_succ_of_le (hm k hK)
      · have : k = T.length := by simp at hk; omega
        subst this
        rw [eV hk]; omega
  · intro j hj hj' hji x hx
    have hjT : j < T.length := by omega
    rw [gT j hjT hj] at hx
    obtain ⟨k, hk, hk', e, hle⟩ := h.pr j hjT (by omega) hji x hx
    refine ⟨k, by simp; omega, by simp; omega, by rw [gT k hk]; exact e, ?_⟩
    rw [gV k hk', gV j (by omega)]; exact hle
  · intro k hk hk' hx
    by_cases hT : k < T.length
    · rw [gT k hT hk] at hx
      rw [gV k (by omega) hk']; exact h.rt k hT _ hx
    · have : k = T.length := by simp at hk; omega
      subst this
      rw [eT hk] at hx
      rw [eV hk']; exact hr hx
theorem LvOk.root {req : Bm → List Bm} {roots : List Bm} {T : By} {V : List Nat} (h : LvOk req roots T 0 V) (h1 : ∀ k (hk : k < V.length), V[k] = 1) {m : Bm} (hm : m ∈ roots) : ∃ V', LvOk req roots (comeT T m m) 0 V' ∧ ∀ k (hk : k < V'.length), V'[k] = 1 := by
  cases hc : cameB T m with
  | true => rw [come_yes hc]; exact ⟨V, h, h1⟩
  | false =>
    rw [come_no hc]
    refine ⟨V ++ [1], h.push (.root hm) (Or.inl ⟨rfl, rfl⟩) (fun k hk => by rw [h1 k hk]; exact Nat.le_refl _) (fun hi => by omega) (Nat.zero_le _) (fun _ => by omega) (fun _ => rfl), fun k hk => ?_⟩
    by_cases hK : k < V.length
    · rw [List.getElem_append_left hK]; exact h1 k hK
    · have : k = V.length := by simp at hk; omega
      subst this; simp
theorem LvOk.reqs {req : Bm → List Bm} {roots : List Bm} {T : By} {i : Nat} {V : List Nat} (h : LvOk req roots T i V) (hi : i < T.length) (hall : ∀ m, m ∈ roots → m ∈ whoT T) {m : Bm} (hm : m ∈ req T[i].1) : ∃ V', LvOk req roots (comeT T m T[i].1) i V' := by
  have hiV : i < V.length := by rw [h.ln]; exact hi
  cases hc : cameB T m with
  | true => rw [come_yes hc]; exact ⟨V, h⟩
  | false =>
    rw [come_no hc]
    exact ⟨V ++ [V[i] + 1], h.push (.step (h.wn i hi hiV) hm) (Or.inr ⟨i, hi, rfl, rfl⟩) (fun k hk => h.nx k hk hiV) (fun _ => Nat.le_refl _) (Nat.le_of_lt hi) (fun e => by omega) (fun hr => absurd (hall m hr) (cameB_not hc))⟩
theorem LvOk.next {req : Bm → List Bm} {roots : List Bm} {T : By} {i : Nat} {V : List Nat} (h : LvOk req roots T i V) (hi : i < T.length) (hr : ∀ m, m ∈ req T[i].1 → m ∈ whoT T) : LvOk req roots T (i + 1) V := by
  have hiV : i < V.length := by rw [h.ln]; exact hi
  refine ⟨h.ln, h.wn, h.st, h.mo, fun k hk hi1 => ?_, fun j hj hj' hji m hm => ?_, h.rt⟩
  · exact Nat.le_trans (h.nx k hk hiV) (Nat.succ_le_succ (h.mo i (i + 1) hi1 (Nat.lt_succ_self i)))
  · rcases Nat.lt_or_ge j i with h1 | h1
    · exact h.pr j hj hj' h1 m hm
    · have : j = i := by omega
      subst this
      obtain ⟨k, hk, e⟩ := whoT_mem.1 (hr m hm)
      exact ⟨k, hk, by rw [h.ln]; exact hk, e, h.nx k (by rw [h.ln]; exact hk) hiV⟩
structure Came (req : Bm → List Bm) (U roots : List Bm) (T : By) : Prop where
  b : Bfs req U roots T T.length
  r : ∀ m, m ∈ roots → m ∈ whoT T
  l : ∃ V, LvOk req roots T T.length V
theorem Came.iff {req : Bm → List Bm} {U roots : List Bm} {T : By} (h : Came req U roots T) (m : Bm) : m ∈ whoT T ↔ Rch req roots m := by
  constructor
  · intro hm
    obtain ⟨k, hk, rfl⟩ := whoT_mem.1 hm
    exact h.b.only k k hk (Nat.le_refl _)
  · intro hm
    induction hm with
    | root hr => exact h.r _ hr
    | step _ hr ih =>
      obtain ⟨k, hk, rfl⟩ := whoT_mem.1 ih
      exact h.b.cl k hk hk _ hr
theorem Came.cameB {req : Bm → List Bm} {U roots : List Bm} {T : By} (h : Came req U roots T) (m : Bm) : Ve.cameB T m = true ↔ Rch req roots m := by
  rw [cameB_iff]
  exact h.iff m
end Ve
end Go.Proofs.YtpafkniapacfdaaGreatDoor


namespace Go.Proofs.YtpafkniapacfdaaGreatDoor
open Go.RowKit
namespace Ve
theorem split_any (c : UInt8) (s : ByteArray) (m : Int) (w : World) (hs : s.size < 4294967281) (hm : w.cell? ⟨12, 0, none⟩ = some (.int .i64 m)) :
    Calls Tryz.prog 78 #[.string s, .string ⟨#[c]⟩] w fun e w' => ∃ X : List ByteArray, e = .returned (.slice (some ⟨w.heap.size, 0, none⟩) X.length X.length) ∧ bl X = cutAt c s.data.toList ∧
      (∀ j (h : j < X.length), w'.cell? ⟨w.heap.size, 0 + j, none⟩ = some (.string X[j])) ∧ Below w.heap.size w w' ∧ w.heap.size < w'.heap.size := by
  refine (Tryz.strings_Split s ⟨#[c]⟩ m w hs hm (Nat.le_refl 1)).mono fun e w' ⟨h1, h2⟩ => ?_
  have hlen := Lib.splitB_all ⟨#[c]⟩ (Nat.le_refl 1) 0 _ s rfl
  refine ⟨Lib.splitB ⟨#[c]⟩ 0 (Lib.countB s ⟨#[c]⟩) s, ?_, bl_split c s, ?_, ?_, ?_⟩
  · rw [h1, hlen]
  · intro j hj
    rw [h2, World.cell?_alloc_at _ _ _ _ rfl]
    simp [hj]
  · rw [h2]; exact (Below.refl _ _).alloc (Nat.le_refl _) _
  · rw [h2]; simp
theorem piece_le {c : UInt8} {s x : ByteArray} {X : List ByteArray} (hX : bl X = cutAt c s.data.toList) (hx : x ∈ X) : x.size ≤ s.size := by
  have := cutAt_le c s.data.toList _ (hX ▸ bl_mem hx)
  simpa using this
theorem many_le {c : UInt8} {s : ByteArray} {X : List ByteArray} (hX : bl X = cutAt c s.data.toList) : X.length ≤ s.size + 1 := by
  have := cutAt_many c s.data.toList
  rw [← hX, bl_len] at this
  simpa using this
theorem infoInt : (Tryz.prog.info? 3).map (fun i => (i.zero, i.size, i.bytes)) = some (some (.int .i64 0), 1, 8) := by kernel_rfl
theorem owns_below {w w' : World} {base : Nat} {e : TypeId} {size : Nat} {v : Value} {n : Nat} {xs : List Value} (h : w.ownsRow base e size v n xs) (hb : Below w.heap.size w w') : w'.ownsRow base e size v n xs := by
  obtain ⟨hl, h | ⟨g, cap, cur, e1, e2, e3, e4, e5, e6, e7⟩⟩ := h
  · exact ⟨hl, Or.inl h⟩
  · exact ⟨hl, Or.inr ⟨g, cap, cur, e1, e2, by rw [hb.block _ (lt_of_blk e3)]; exact e3, e4, e5, e6, e7⟩⟩
theorem rel_app {B : Nat} {w wr w2 w3 : World} {e : TypeId} {v : Value} {n : Nat} {xs : List Value} {o : Obj} (hB : B ≤ wr.heap.size) (hb : Below B w wr) (hown : wr.ownsRow B e 1 v n xs) (hb2 : Below wr.heap.size wr w2)
    (hg : (w2.alloc o).grownBy w3 v.ownBlock) : Below B w w3 := by
  have h2 : Below B w w2 := hb.trans (hb2.mono hB)
  have h3 : Below B w (w2.alloc o) := h2.alloc (Nat.le_trans hB hb2.size) o
  exact h3.grown hg (by simp; exact Nat.le_succ_of_le (Nat.le_trans hB hb2.size)) (fun k hk => (hown.lt k hk).1)
set_option maxHeartbeats 1000000 in
theorem nums_any (s : ByteArray) (aT aB : Addr) (m : Int) (w : World) (hs : s.size < 4294967281) (S : Vs w aT aB m) :
    Calls Tryz.prog 147 #[.string s] w fun e w' => ∃ v, e = .returned (.tuple #[v, errV aT aB (numsErr (cutAt 46 s.data.toList))]) ∧
      w'.ownsRow w.heap.size 3 1 v (cutAt 46 s.data.toList).length ((numsOf (cutAt 46 s.data.toList)).map (Value.int .i64)) ∧ Below w.heap.size w w' := by
  obtain ⟨i0, hi, hz0, hz1, hz2⟩ := info_parts infoInt
  have HS := hid S
  clear S
  go_enter Tryz.func147, Tryz.ntmps147
  go_wp2_with fail
  refine (split_any 46 s m w hs HS.out.ml).mono ?_
  rintro e w1 ⟨X, rfl, hX, hc, hb, hz⟩
  have HX := hid hX
  have HC := hid hc
  have HB := hid hb
  have hn := many_le hX
  clear hX hc hb
  go_wp2_with fail
  go_loopw [4, 5, 13] (fun v bad i wr => ∃ k : Nat, k ≤ X.length ∧ i = .int .i64 k ∧ bad = errV aT aB (numsErr (bl (X.take k))) ∧
      wr.ownsRow w1.heap.size 3 1 v k ((numsOf (bl (X.take k))).map (Value.int .i64)) ∧ Below w1.heap.size w1 wr) (fun _ _ i _ => X.length - (intOf i).toNat)
  case atStart => exact ⟨0, Nat.zero_le _, rfl, rfl, World.ownsRow_nil _ _ _ _, Below.refl _ _⟩
  case round =>
    obtain ⟨k, hk, rfl, rfl, hown, hbr⟩ := hrel
    have HO := hid hown
    have HBR := hid hbr
    clear hown hbr
    have hz2' := HBR.out.size
    by_cases hlt : k < X.length
    · have hcell : wr.cell? ⟨w.heap.size, k, none⟩ = some (.string X[k]) := by
        have := HC.out k hlt
        rw [Nat.zero_add] at this
        exact cell_below HBR.out this
      have HE := hid (numsErr_err (bl (X.take k)))
      have HSN := hid (numsErr_snoc (bl (X.take k)) X[k].data.toList)
      have HON := hid (numsOf_snoc (bl (X.take k)) X[k].data.toList)
      rw [← bl_take_snoc X k hlt] at HSN HON
      have HXK := hid (show X[k].size ≤ maxLen by have := piece_le HX.out (List.getElem_mem hlt); unfold maxLen; omega)
      have HW := hid (HB.out.trans (HBR.out.mono HB.out.size))
      generalize hq : numsErr (bl (X.take k)) = q at *
      generalize hq2 : numsOf (bl (X.take k)) = q2 at *
      clear hq hq2
      go_wp2_with fail
      refine (num_any X[k] aT aB m wr HXK.out (HS.out.below HW.out)).mono ?_
      rintro e w2 ⟨rfl, hb2⟩
      have HB2 := hid hb2
      have HPE := hid (num_err X[k].data.toList)
      have hz3 := hb2.size
      clear hb2
      go_wp2_with fail
      refine (worse_any q _ aT aB m w2 (HS.out.below (HW.out.trans (HB2.out.mono HW.out.size))) HE.out HPE.out).mono ?_
      rintro e w' ⟨rfl, rfl⟩
      rw [← HSN.out]
      go_wp2_with (at_builtin; refine wpList_append_own _ rfl _ _ 199 rfl w1.heap.size 3 i0 (.int .i64 0) 1 8 Tryz.underlying199 hi hz0 hz1 hz2 rfl (by decide) _ _ _ rfl ((owns_below HO.out HB2.out).alloc _) ⟨w'.heap.size, 0, none⟩ 1 1 [.int .i64 (num X[k].data.toList).1] rfl rfl ?c1 ?c2 ?c3 ?c4 ?c5 ?_)
      case c1 =>
        intro j u hj
        match j, hj with
        | 0, hj => simp at hj; subst hj; simp [Addr.add]
      case c2 => intro u hu; simp at hu; subst hu; rfl
      case c3 => unfold maxLen; omega
      case c4 => omega
      case c5 => simp; omega
      intro v' w3 hown' hgrow _
      have HR := hid (rel_app hz2' HBR.out HO.out HB2.out hgrow)
      have HO' := hid hown'
      clear hown' hgrow
      go_wp2_with fail
      go_roundw
      case rel => exact ⟨k + 1, by omega, by go_num, rfl, by rw [HON.out]; simpa using HO'.out, HR.out⟩
      case measure => simp [intOf]; omega
    · have hkk : X.take k = X := List.take_of_length_le (by omega)
      have hkl : k = X.length := by omega
      rw [hkk] at HO ⊢
      subst hkl
      have HL := hid (show (cutAt 46 s.data.toList).length = X.length by rw [← HX.out, bl_len])
      have HF := hid (HB.out.trans (HBR.out.mono HB.out.size))
      clear hkk
      go_wp2_with fail
      go_ret2
      exact ⟨_, by rw [HX.out]; rfl, by rw [HL.out, ← HX.out]; exact HO.out.mono HB.out.size, HF.out⟩
end Ve
end Go.Proofs.YtpafkniapacfdaaGreatDoor


namespace Go.Proofs.YtpafkniapacfdaaGreatDoor
open Go.RowKit
namespace Ve
theorem cell1_set {w : World} {b : Nat} {v x : Value} {T : TypeId} (h : w.heap[b]? = some (.cells #[v] T (0, 0))) : (w.setCell ⟨b, 0, none⟩ x).heap[b]? = some (.cells #[x] T (0, 0)) := by
  simp [World.setCell, Array.getElem?_modify, h]
theorem cell1_far {w : World} {b k : Nat} {x : Value} (h : k ≠ b) : (w.setCell ⟨b, 0, none⟩ x).heap[k]? = w.heap[k]? := Below.heap_setCell _ _ _ _ h
theorem cell1_size {w : World} {b : Nat} {x : Value} : (w.setCell ⟨b, 0, none⟩ x).heap.size = w.heap.size := by simp [World.setCell]
structure But (b : Nat) (w w' : World) : Prop where
  os : w'.os = w.os
  tape : w'.tape = w.tape
  out : w'.output = w.output
  size : w'.heap.size = w.heap.size
  far : ∀ k, k ≠ b → w'.heap[k]? = w.heap[k]?
theorem But.refl (b : Nat) (w : World) : But b w w := ⟨rfl, rfl, rfl, rfl, fun _ _ => rfl⟩
theorem But.trans {b : Nat} {w w1 w2 : World} (h : But b w w1) (g : But b w1 w2) : But b w w2 :=
  ⟨g.os.trans h.os, g.tape.trans h.tape, g.out.trans h.out, g.size.trans h.size, fun k hk => (g.far k hk).trans (h.far k hk)⟩
theorem But.set {b : Nat} {w w' : World} (h : But b w w') (x : Value) : But b w (w'.setCell ⟨b, 0, none⟩ x) :=
  ⟨h.os, h.tape, h.out, by rw [cell1_size]; exact h.size, fun k hk => (cell1_far hk).trans (h.far k hk)⟩
theorem But.below {b : Nat} {w w1 w2 : World} (h : But b w1 w2) (g : Below b w w1) : Below b w w2 :=
  ⟨h.os.trans g.os, h.tape.trans g.tape, h.out.trans g.output, by rw [h.size]; exact g.size, fun k hk => (h.far k (by omega)).trans (g.block k hk)⟩
set_option maxHeartbeats 1000000 in
theorem crcK_any (b left : Nat) (bit : Nat) (w : World) (h1 : w.heap[b]? = some (.cells #[.int .u32 left] 24 (0, 0))) (hl : left < 4294967296) (hb : bit < 2) :
    Calls Tryz.prog 83 #[.int .u32 bit, .pointer (some ⟨b, 0, none⟩)] w fun e w' => e = .returned (.tuple #[]) ∧ w'.heap[b]? = some (.cells #[.int .u32 (bitS left bit : Nat)] 24 (0, 0)) ∧ But b w w' := by
  have hc : w.cell? ⟨b, 0, none⟩ = some (.int .u32 left) := by rw [Lib.cell_of_heap h1]; rfl
  have hf : ∀ o, w.frozen? ⟨b, o, none⟩ = false := fun o => Lib.frozen_of_heap h1 o
  have e1 : bits .and .u32 (left : Int) 1 = (left : Int) % 2 := by
    have := u32_and_nat left 1 hl (by omega)
    rw [Nat.and_one_is_mod, Int.natCast_emod] at this
    exact this
  have e2 : bits .xor .u32 ((left : Int) % 2) (bit : Int) = (outX left bit : Int) := by
    have := u32_xor_nat (left % 2) bit (by omega) (by omega)
    rw [Int.natCast_emod] at this
    exact this
  have e3 : bits .xor .u32 ((left : Int) / 2) 3988292384 = ((left / 2 ^^^ poly : Nat) : Int) := by
    have := u32_xor_nat (left / 2) poly (by omega) poly_lt
    simpa [poly] using this
  have H1 := hid h1
  clear h1
  by_cases ho : outX left bit = 1
  · have hq : ((outX left bit : Int) == 1) = true := by rw [ho]; rfl
    have HS := hid (show bitS left bit = left / 2 ^^^ poly by unfold bitS; rw [if_pos ho])
    clear ho
    go_enter Tryz.func83, Tryz.ntmps83
    go_wp2_with fail
    go_end0
    exact ⟨rfl, by rw [HS.out]; exact cell1_set (cell1_set H1.out), ((But.refl b w).set _).set _⟩
  · have hq : ((outX left bit : Int) == 1) = false := by rw [beq_eq_false_iff_ne]; omega
    have HS := hid (show bitS left bit = left / 2 by unfold bitS; rw [if_neg ho])
    clear ho
    go_enter Tryz.func83, Tryz.ntmps83
    go_wp2_with fail
    go_end0
    exact ⟨rfl, by rw [HS.out]; exact cell1_set H1.out, (But.refl b w).set _⟩
end Ve
end Go.Proofs.YtpafkniapacfdaaGreatDoor


namespace Go.Proofs.YtpafkniapacfdaaGreatDoor
open Go.RowKit
namespace Ve
theorem i64_nat {a : Nat} (ha : a < 9223372036854775808) : (BitVec.ofInt 64 (a : Int)).toNat = a := by
  rw [BitVec.toNat_ofInt]; omega
theorem i64_xor_nat (a b : Nat) (ha : a < 9223372036854775808) (hb : b < 9223372036854775808) : bits .xor .i64 (a : Int) (b : Int) = ((a ^^^ b : Nat) : Int) := by
  have hx : a ^^^ b < 2 ^ 63 := Nat.xor_lt_two_pow (by omega) (by omega)
  show IntKind.i64.wrap ((BitVec.ofInt 64 (a : Int) ^^^ BitVec.ofInt 64 (b : Int)).toNat : Int) = _
  rw [BitVec.toNat_xor, i64_nat ha, i64_nat hb, IntKind.wrap_i64] <;> omega
theorem poly_x (c : Nat) (h : c < 4294967296) : bits .xor .i64 ((c / 2 : Nat) : Int) 3988292384 = ((c / 2 ^^^ poly : Nat) : Int) := i64_xor_nat (c / 2) poly (by omega) (by decide)
set_option maxHeartbeats 1000000 in
theorem rcrc_any (s : ByteArray) (w : World) (hs : s.size ≤ 1000000) :
    Calls Tryz.prog 25 #[.string s] w fun e w' => e = .returned (.int .i64 (crcL s.data.toList : Nat)) ∧ w' = w := by
  have HX := hid (i64_xor_nat (crcTo 4294967295 s.data.toList) 4294967295 (by have := crcTo_lt s.data.toList (c := 4294967295) (by omega); omega) (by omega))
  go_enter Tryz.func25, Tryz.ntmps25
  go_wp2_with fail
  go_loop [3, 4] (fun cv i => ∃ k : Nat, k ≤ s.size ∧ i = .int .i64 k ∧ cv = .int .i64 (crcTo 4294967295 (s.data.toList.take k) : Nat)) (fun _ i => s.size - (intOf i).toNat)
  case atStart => exact ⟨0, Nat.zero_le _, rfl, rfl⟩
  case round =>
    obtain ⟨k, hk, rfl, rfl⟩ := hrel
    by_cases hlt0 : k < s.size
    · have HLT := hid hlt0
      have hlt : k < s.size := hlt0
      clear hlt0
      have hkI : (k : Int) < (s.size : Int) := by omega
      have hk0 : (0 : Int) ≤ (k : Int) := by omega
      have hlc := crcTo_lt (s.data.toList.take k) (c := 4294967295) (by omega)
      have HNX := hid (show crcTo 4294967295 (s.data.toList.take (k + 1)) = crcB (crcTo 4294967295 (s.data.toList.take k)) s[k] from crcTo_next 4294967295 s.data.toList (i := k) (by simpa using hlt))
      have hx := i64_xor_nat (crcTo 4294967295 (s.data.toList.take k)) s[k].toNat (by omega) (by have := byte_lt s[k]; omega)
      have hw : wrap64 (s[k].toNat : Int) = (s[k].toNat : Int) := IntWalk.wrap64_in _ (by have := byte_lt s[k]; omega)
      have hlx : crcTo 4294967295 (s.data.toList.take k) ^^^ s[k].toNat < 4294967296 := Nat.xor_lt_two_pow (n := 32) hlc (by have := byte_lt s[k]; omega)
      have HBY := hid (show stpN 8 (crcTo 4294967295 (s.data.toList.take k) ^^^ s[k].toNat) = crcTo 4294967295 (s.data.toList.take (k + 1)) by rw [HNX.out]; rfl)
      clear HNX
      generalize crcTo 4294967295 (s.data.toList.take k) = c at *
      generalize c ^^^ s[k].toNat = d at *
      go_wp2_with fail
      go_loop [3, 5] (fun cv j => ∃ q : Nat, q ≤ 8 ∧ j = .int .i64 q ∧ cv = .int .i64 (stpN q d : Nat)) (fun _ j => 8 - (intOf j).toNat)
      case atStart => exact ⟨0, Nat.zero_le _, rfl, rfl⟩
      case round =>
        obtain ⟨q, hq, rfl, rfl⟩ := hrel
        by_cases hq8 : q < 8
        · have hl := stpN_lt hlx q
          have HSN := hid (show stpN (q + 1) d = stp (stpN q d) from rfl)
          generalize stpN q d = c at *
          have hp := poly_x c hl
          rw [Int.natCast_ediv] at hp
          have hp : bits .xor .i64 ((c : Int) / 2) 3988292384 = ((c / 2 ^^^ poly : Nat) : Int) := hp
          by_cases ho : c % 2 = 1
          · have hq1 : (((c : Int) % 2) == 1) = true := by rw [beq_iff_eq]; omega
            have HE := hid (show stp c = c / 2 ^^^ poly by unfold stp; rw [if_pos ho])
            clear ho
            go_wp2_with fail
            refine ⟨⟨q + 1, by omega, by go_num, by rw [HSN.out, HE.out]⟩, by simp [intOf]; omega⟩
          · have hq1 : (((c : Int) % 2) == 1) = false := by rw [beq_eq_false_iff_ne]; omega
            have HE := hid (show stp c = c / 2 by unfold stp; rw [if_neg ho])
            clear ho
            go_wp2_with fail
            refine ⟨⟨q + 1, by omega, by go_num, by rw [HSN.out, HE.out]; rfl⟩, by simp [intOf]; omega⟩
        · have hq9 : q = 8 := by omega
          subst hq9
          have HD2 := HBY
          generalize stpN 8 d = c at *
          go_wp2_with fail
          refine ⟨⟨k + 1, HLT.out, by go_num, by rw [HD2.out]⟩, by simp [intOf]; omega⟩
    · have hkI : ¬ (k : Int) < (s.size : Int) := by omega
      have hk2 : s.data.toList.take k = s.data.toList := List.take_of_length_le (by simp; omega)
      rw [hk2]
      clear hk2
      have HX2 := hid (show ((crcTo 4294967295 s.data.toList ^^^ 4294967295 : Nat) : Int) = (crcL s.data.toList : Nat) from rfl)
      have hx : bits .xor .i64 (crcTo 4294967295 s.data.toList : Nat) 4294967295 = ((crcTo 4294967295 s.data.toList ^^^ 4294967295 : Nat) : Int) := HX.out
      clear HX
      generalize crcTo 4294967295 s.data.toList = c at *
      go_wp2_with fail
      go_ret
      exact ⟨congrArg (fun z => Ending.returned (Value.int .i64 z)) HX2.out, rfl⟩
end Ve
end Go.Proofs.YtpafkniapacfdaaGreatDoor


namespace Go.Proofs.YtpafkniapacfdaaGreatDoor
open Go.RowKit
namespace Ve
def marked (l : List UInt8) : Bool := l.headD 0 == 118
def restOf (l : List UInt8) : List UInt8 := if marked l then l.drop 1 else l
theorem hasPrefix_v (l : List UInt8) : Lib.hasPrefix l [118] = marked l := by
  cases l with
  | nil => rfl
  | cons b l =>
    show ([118] : List UInt8).isPrefixOf (b :: l) = (b == 118)
    simp only [List.isPrefixOf, Bool.and_true]
    exact Bool.beq_comm
theorem trimPrefix_v (l : List UInt8) : Lib.trimPrefix l [118] = restOf l := by
  unfold Lib.trimPrefix restOf
  rw [hasPrefix_v]; rfl
theorem restOf_le (l : List UInt8) : (restOf l).length ≤ l.length := by unfold restOf; split <;> simp
def coreOf (l : List UInt8) : List (List UInt8) := cutAt 46 (one 45 (restOf l)).1
def hasPre (l : List UInt8) : Bool := (one 45 (restOf l)).2.2
def preOf (l : List UInt8) : List (List UInt8) := if hasPre l then cutAt 46 (one 45 (restOf l)).2.1 else []
def verErr (l : List UInt8) : Nat :=
  if marked l = false ∨ (coreOf l).length ≠ 3 then 1
  else if hasPre l then worse (numsErr (coreOf l)) (pre (preOf l)) else numsErr (coreOf l)
theorem cutPrefix_any (s : ByteArray) (w : World) :
    Calls Tryz.prog 145 #[.string s, .string ⟨#[118]⟩] w fun e w' => ∃ R : ByteArray, e = .returned (.tuple #[.string R, .bool (marked s.data.toList)]) ∧ R.data.toList = restOf s.data.toList ∧ w' = w :=
  (Tryz.strings_CutPrefix s ⟨#[118]⟩ w).mono fun e w' ⟨h1, h2⟩ => by
    have e0 : (⟨#[118]⟩ : ByteArray).data.toList = [118] := rfl
    rw [e0, trimPrefix_v, hasPrefix_v] at h1
    exact ⟨⟨(restOf s.data.toList).toArray⟩, h1, by simp, h2⟩
theorem cut_any (s : ByteArray) (m : Int) (w : World) (hs : s.size < 4294967281) (hm : w.cell? ⟨12, 0, none⟩ = some (.int .i64 m)) :
    Calls Tryz.prog 146 #[.string s, .string ⟨#[45]⟩] w fun e w' => ∃ C T : ByteArray, e = .returned (.tuple #[.string C, .string T, .bool (one 45 s.data.toList).2.2]) ∧ C.data.toList = (one 45 s.data.toList).1 ∧ T.data.toList = (one 45 s.data.toList).2.1 ∧ Below w.heap.size w w' :=
  (Tryz.strings_Cut s ⟨#[45]⟩ m w hs hm).mono fun e w' ⟨h1, n, h2⟩ => by
    have e0 : (⟨#[45]⟩ : ByteArray).data.toList = [45] := rfl
    rw [e0, cut_one] at h1
    exact ⟨⟨(one 45 s.data.toList).1.toArray⟩, ⟨(one 45 s.data.toList).2.1.toArray⟩, h1, by simp, by simp, by rw [h2]; exact below_drawn w n⟩
theorem one_le (c : UInt8) (l : List UInt8) : (one c l).1.length ≤ l.length ∧ (one c l).2.1.length ≤ l.length := by
  unfold one
  have h := congrArg List.length (List.takeWhile_append_dropWhile (p := (· != c)) (l := l))
  simp only [List.length_append] at h
  simp only [List.length_drop]
  omega
theorem size_of {s : ByteArray} {l : List UInt8} (h : s.data.toList = l) : s.size = l.length := by rw [← h]; simp
theorem res4 {w w3 : World} {a b c d : Value} {T : TypeId} (hb : Below (w.heap.size + 1) (w.alloc (.cells #[a, b, c, d] T)) w3) :
    (w3.cell? ⟨w.heap.size, 0, none⟩ = some a ∧ w3.cell? ⟨w.heap.size, 1, none⟩ = some b ∧ w3.cell? ⟨w.heap.size, 2, none⟩ = some c ∧ w3.cell? ⟨w.heap.size, 3, none⟩ = some d) ∧
    (∀ o, w3.frozen? ⟨w.heap.size, o, none⟩ = false) ∧ w.heap.size < w3.heap.size := by
  refine ⟨⟨?_, ?_, ?_, ?_⟩, ?_, ?_⟩
  · rw [hb.cell (by simp)]; simp
  · rw [hb.cell (by simp)]; simp
  · rw [hb.cell (by simp)]; simp
  · rw [hb.cell (by simp)]; simp
  · intro o; rw [hb.frozen (by simp)]; simp
  · have := hb.size; simp at this; omega
set_option maxHeartbeats 1000000 in
theorem vsplit_shape (s : ByteArray) (aT aB : Addr) (m : Int) (w : World) (hs : s.size < 4294967281) (S : Vs w aT aB m) (h0 : marked s.data.toList = false ∨ (coreOf s.data.toList).length ≠ 3) :
    Calls Tryz.prog 106 #[.string s] w fun e w' => e = .returned (.tuple #[.agg #[.int .i64 0, .int .i64 0, .int .i64 0, .slice none 0 0], .iface 291 (.pointer (some aT))]) ∧ Below w.heap.size w w' := by
  have HB0 := hid ((Below.refl w.heap.size w).alloc (Nat.le_refl _) (.cells #[.int .i64 0, .int .i64 0, .int .i64 0, .slice none 0 0] 162))
  have HS := hid (S.below HB0.out)
  have H0 := hid h0
  have hne1 : ¬ w.heap.size = 4 := by have := lt_of_cell S.t; simp at this; omega
  have hne2 : ¬ 4 = w.heap.size := fun h => hne1 h.symm
  clear S h0
  go_enter Tryz.func106, Tryz.ntmps106
  go_wp2_with fail
  refine (cutPrefix_any s _).mono ?_
  rintro e w1 ⟨R, rfl, hR, rfl⟩
  have HR := hid hR
  have hRs : R.size < 4294967281 := by
    have h1 := size_of hR
    have h2 := restOf_le s.data.toList
    simp at h2; omega
  clear hR
  go_wp2_with fail
  refine (cut_any R m _ hRs HS.out.ml).mono ?_
  rintro e w2 ⟨C, T, rfl, hC, hT, hb2⟩
  have HC := hid hC
  have hCs : C.size < 4294967281 := by
    have h1 := size_of hC
    have h2 := (one_le 45 R.data.toList).1
    simp at h2; omega
  have HB2 := hid (show Below (w.heap.size + 1) (w.alloc (.cells #[.int .i64 0, .int .i64 0, .int .i64 0, .slice none 0 0] 162)) w2 from hb2.mono (by simp))
  have HS2 := hid (HS.out.below hb2)
  clear hC hT hb2
  go_wp2_with fail
  refine (nums_any C aT aB m w2 hCs HS2.out).mono ?_
  rintro e w3 ⟨v, rfl, hown, hb3⟩
  have HO := hid hown
  have HB3 := hid (HB2.out.trans (hb3.mono (by have := HB2.out.size; simpa using this)))
  obtain ⟨⟨r0, r1, r2, r3⟩, rf, rz⟩ := res4 HB3.out
  have HS3 := hid (HS2.out.below hb3)
  have g := HS3.out.t
  have HBF := hid (HB0.out.trans (HB3.out.mono (by omega)))
  have hCC : cutAt 46 C.data.toList = coreOf s.data.toList := by rw [HC.out, HR.out]; rfl
  rw [hCC] at HO
  clear hown hb3 hCC
  cases hmk : marked s.data.toList
  · clear hmk
    go_wp2_with fail
    go_region
    all_goals (try go_wp2)
    all_goals
      refine bodyPost_ret (v := .tuple #[.agg #[.int .i64 0, .int .i64 0, .int .i64 0, .slice none 0 0], .iface 291 (.pointer (some aT))]) (by simp [results, Tryz.results106, go_sem, r0, r1, r2, r3]) rfl ⟨rfl, ?_⟩
      exact ((((HBF.out.setCell (Nat.le_refl _) _).setCell (Nat.le_refl _) _).setCell (Nat.le_refl _) _).setCell (Nat.le_refl _) _).drew
  · have h3 : (((coreOf s.data.toList).length : Int) == 3) = false := by
      rcases H0.out with h | h
      · rw [hmk] at h; cases h
      · simp; omega
    clear hmk
    obtain ⟨_, ⟨_, hn0⟩ | ⟨g9, cap, cur, hv, _⟩⟩ := HO.out
    · exact absurd (List.length_eq_zero_iff.1 hn0) (cutAt_ne _ _)
    · subst hv
      generalize (coreOf s.data.toList).length = n at *
      go_wp2_with fail
      go_region
      all_goals (try go_wp2)
      all_goals
        refine bodyPost_ret (v := .tuple #[.agg #[.int .i64 0, .int .i64 0, .int .i64 0, .slice none 0 0], .iface 291 (.pointer (some aT))]) (by simp [results, Tryz.results106, go_sem, r0, r1, r2, r3]) rfl ⟨rfl, ?_⟩
        exact ((((HBF.out.setCell (Nat.le_refl _) _).setCell (Nat.le_refl _) _).setCell (Nat.le_refl _) _).setCell (Nat.le_refl _) _).drew
def StrsAt (w : World) (v : Value) (X : List ByteArray) : Prop :=
  (X = [] ∧ v = .slice none 0 0) ∨ (X ≠ [] ∧ ∃ b, v = .slice (some ⟨b, 0, none⟩) X.length X.length ∧ b < w.heap.size ∧ ∀ j (h : j < X.length), w.cell? ⟨b, 0 + j, none⟩ = some (.string X[j]))
theorem StrsAt.below {w w' : World} {v : Value} {X : List ByteArray} (h : StrsAt w v X) (hb : Below w.heap.size w w') : StrsAt w' v X := by
  rcases h with h | ⟨h, b, e1, e2, e3⟩
  · exact Or.inl h
  · exact Or.inr ⟨h, b, e1, Nat.lt_of_lt_of_le e2 hb.size, fun j hj => cell_below hb (e3 j hj)⟩
def nAt (l : List UInt8) (i : Nat) : Int := (numsOf (coreOf l)).getD i 0
theorem n_three {l : List UInt8} (h : (coreOf l).length = 3) : numsOf (coreOf l) = [nAt l 0, nAt l 1, nAt l 2] := by
  unfold nAt
  have : (numsOf (coreOf l)).length = 3 := by rw [numsOf_len, h]
  match hq : numsOf (coreOf l), this with
  | [a, b, c], _ => rfl
theorem three_cells {w : World} {g : Nat} {cur : Array Value} {e : TypeId} {a b c : Int} (hb : w.heap[g]? = some (.cells cur e (0, 0))) (ht : cur.toList.take (3 * 1) = [a, b, c].map (Value.int .i64)) :
    w.cell? ⟨g, 0, none⟩ = some (.int .i64 a) ∧ w.cell? ⟨g, 1, none⟩ = some (.int .i64 b) ∧ w.cell? ⟨g, 2, none⟩ = some (.int .i64 c) := by
  have key : ∀ i, i < 3 → cur[i]? = ([a, b, c].map (Value.int .i64))[i]? := fun i hi => by
    rw [← ht, List.getElem?_take, if_pos (by omega)]; simp
  have k0 := key 0 (by omega)
  have k1 := key 1 (by omega)
  have k2 := key 2 (by omega)
  simp at k0 k1 k2
  simp [World.cell?, hb, k0, k1, k2]
set_option maxHeartbeats 1000000 in
theorem vsplit_num (s : ByteArray) (aT aB : Addr) (m : Int) (w : World) (hs : s.size < 4294967281) (S : Vs w aT aB m) (hmk : marked s.data.toList = true) (h3 : (coreOf s.data.toList).length = 3) (hp : hasPre s.data.toList = false) (hq : numsErr (coreOf s.data.toList) ≠ 0) :
    Calls Tryz.prog 106 #[.string s] w fun e w' => e = .returned (.tuple #[.agg #[.int .i64 0, .int .i64 0, .int .i64 0, .slice none 0 0], errV aT aB (numsErr (coreOf s.data.toList))]) ∧ Below w.heap.size w w' := by
  have HQ := hid hq
  clear hq
  have HB0 := hid ((Below.refl w.heap.size w).alloc (Nat.le_refl _) (.cells #[.int .i64 0, .int .i64 0, .int .i64 0, .slice none 0 0] 162))
  have HS := hid (S.below HB0.out)
  have hne1 : ¬ w.heap.size = 4 := by have := lt_of_cell S.t; simp at this; omega
  have hne2 : ¬ 4 = w.heap.size := fun h => hne1 h.symm
  have HM := hid hmk
  have H3 := hid h3
  have HP := hid hp
  clear S hmk h3 hp
  go_enter Tryz.func106, Tryz.ntmps106
  go_wp2_with fail
  refine (cutPrefix_any s _).mono ?_
  rintro e w1 ⟨R, rfl, hR, rfl⟩
  rw [HM.out]
  have HR := hid hR
  have hRs : R.size < 4294967281 := by
    have h1 := size_of hR
    have h2 := restOf_le s.data.toList
    simp at h2; omega
  clear hR
  go_wp2_with fail
  refine (cut_any R m _ hRs HS.out.ml).mono ?_
  rintro e w2 ⟨C, T, rfl, hC, hT, hb2⟩
  rw [show (one 45 R.data.toList).2.2 = false by rw [HR.out]; exact HP.out]
  have HC := hid hC
  have HT := hid hT
  have hCs : C.size < 4294967281 := by
    have h1 := size_of hC
    have h2 := (one_le 45 R.data.toList).1
    simp at h2; omega
  have hTs : T.size < 4294967281 := by
    have h1 := size_of hT
    have h2 := (one_le 45 R.data.toList).2
    simp at h2; omega
  have HB2 := hid (show Below (w.heap.size + 1) (w.alloc (.cells #[.int .i64 0, .int .i64 0, .int .i64 0, .slice none 0 0] 162)) w2 from hb2.mono (by simp))
  have HS2 := hid (HS.out.below hb2)
  clear hC hT hb2
  go_wp2_with fail
  refine (nums_any C aT aB m w2 hCs HS2.out).mono ?_
  rintro e w3 ⟨v, rfl, hown, hb3⟩
  have hCC : cutAt 46 C.data.toList = coreOf s.data.toList := by rw [HC.out, HR.out]; rfl
  rw [hCC] at hown ⊢
  rw [H3.out, n_three H3.out] at hown
  have HB3 := hid (HB2.out.trans (hb3.mono (by have := HB2.out.size; simpa using this)))
  have HS3 := hid (HS2.out.below hb3)
  have HZ := hid (show w.heap.size + 1 ≤ w2.heap.size by have := HB2.out.size; simpa using this)
  obtain ⟨_, ⟨_, hn0⟩ | ⟨g9, cap, cur, hv, hg9, hblk, hcap, hcm, hcs, hct⟩⟩ := hown
  · cases hn0
  subst hv
  have HK := hid (show w3.cell? ⟨g9, 0, none⟩ = some (.int .i64 (nAt s.data.toList 0)) ∧ w3.cell? ⟨g9, 1, none⟩ = some (.int .i64 (nAt s.data.toList 1)) ∧ w3.cell? ⟨g9, 2, none⟩ = some (.int .i64 (nAt s.data.toList 2)) from three_cells hblk hct)
  have HG := hid hg9
  clear hg9 hblk hcap hcm hcs hct hb3 hCC
  have HE := hid (numsErr_err (coreOf s.data.toList))
  rcases HE.out with h | h | h
  · exact absurd h HQ.out
  · have HH := hid h
    rw [h, errV1]
    clear h
    obtain ⟨⟨r0, r1, r2, r3⟩, rf, rz⟩ := res4 HB3.out
    have HBF := hid (HB0.out.trans (HB3.out.mono (by omega)))
    go_wp2_with fail
    refine bodyPost_ret (v := .tuple #[.agg #[.int .i64 0, .int .i64 0, .int .i64 0, .slice none 0 0], .iface 291 (.pointer (some aT))]) (by simp [results, Tryz.results106, go_sem, r0, r1, r2, r3]) rfl ⟨by rw [HH.out]; rfl, ?_⟩
    exact (((HBF.out.setCell (Nat.le_refl _) _).setCell (Nat.le_refl _) _).setCell (Nat.le_refl _) _).setCell (Nat.le_refl _) _
  · have HH := hid h
    rw [h, errV2]
    clear h
    obtain ⟨⟨r0, r1, r2, r3⟩, rf, rz⟩ := res4 HB3.out
    have HBF := hid (HB0.out.trans (HB3.out.mono (by omega)))
    go_wp2_with fail
    refine bodyPost_ret (v := .tuple #[.agg #[.int .i64 0, .int .i64 0, .int .i64 0, .slice none 0 0], .iface 291 (.pointer (some aB))]) (by simp [results, Tryz.results106, go_sem, r0, r1, r2, r3]) rfl ⟨by rw [HH.out]; rfl, ?_⟩
    exact (((HBF.out.setCell (Nat.le_refl _) _).setCell (Nat.le_refl _) _).setCell (Nat.le_refl _) _).setCell (Nat.le_refl _) _
set_option maxHeartbeats 1000000 in
theorem vsplit_plain (s : ByteArray) (aT aB : Addr) (m : Int) (w : World) (hs : s.size < 4294967281) (S : Vs w aT aB m) (hmk : marked s.data.toList = true) (h3 : (coreOf s.data.toList).length = 3) (hp : hasPre s.data.toList = false) (hq : numsErr (coreOf s.data.toList) = 0) :
    Calls Tryz.prog 106 #[.string s] w fun e w' => e = .returned (.tuple #[.agg #[.int .i64 (nAt s.data.toList 0), .int .i64 (nAt s.data.toList 1), .int .i64 (nAt s.data.toList 2), .slice none 0 0], .nilIface]) ∧ Below w.heap.size w w' := by
  have HQ := hid hq
  clear hq
  have HB0 := hid ((Below.refl w.heap.size w).alloc (Nat.le_refl _) (.cells #[.int .i64 0, .int .i64 0, .int .i64 0, .slice none 0 0] 162))
  have HS := hid (S.below HB0.out)
  have hne1 : ¬ w.heap.size = 4 := by have := lt_of_cell S.t; simp at this; omega
  have hne2 : ¬ 4 = w.heap.size := fun h => hne1 h.symm
  have HM := hid hmk
  have H3 := hid h3
  have HP := hid hp
  clear S hmk h3 hp
  go_enter Tryz.func106, Tryz.ntmps106
  go_wp2_with fail
  refine (cutPrefix_any s _).mono ?_
  rintro e w1 ⟨R, rfl, hR, rfl⟩
  rw [HM.out]
  have HR := hid hR
  have hRs : R.size < 4294967281 := by
    have h1 := size_of hR
    have h2 := restOf_le s.data.toList
    simp at h2; omega
  clear hR
  go_wp2_with fail
  refine (cut_any R m _ hRs HS.out.ml).mono ?_
  rintro e w2 ⟨C, T, rfl, hC, hT, hb2⟩
  rw [show (one 45 R.data.toList).2.2 = false by rw [HR.out]; exact HP.out]
  have HC := hid hC
  have HT := hid hT
  have hCs : C.size < 4294967281 := by
    have h1 := size_of hC
    have h2 := (one_le 45 R.data.toList).1
    simp at h2; omega
  have hTs : T.size < 4294967281 := by
    have h1 := size_of hT
    have h2 := (one_le 45 R.data.toList).2
    simp at h2; omega
  have HB2 := hid (show Below (w.heap.size + 1) (w.alloc (.cells #[.int .i64 0, .int .i64 0, .int .i64 0, .slice none 0 0] 162)) w2 from hb2.mono (by simp))
  have HS2 := hid (HS.out.below hb2)
  clear hC hT hb2
  go_wp2_with fail
  refine (nums_any C aT aB m w2 hCs HS2.out).mono ?_
  rintro e w3 ⟨v, rfl, hown, hb3⟩
  have hCC : cutAt 46 C.data.toList = coreOf s.data.toList := by rw [HC.out, HR.out]; rfl
  rw [hCC] at hown ⊢
  rw [H3.out, n_three H3.out] at hown
  have HB3 := hid (HB2.out.trans (hb3.mono (by have := HB2.out.size; simpa using this)))
  have HS3 := hid (HS2.out.below hb3)
  have HZ := hid (show w.heap.size + 1 ≤ w2.heap.size by have := HB2.out.size; simpa using this)
  obtain ⟨_, ⟨_, hn0⟩ | ⟨g9, cap, cur, hv, hg9, hblk, hcap, hcm, hcs, hct⟩⟩ := hown
  · cases hn0
  subst hv
  have HK := hid (show w3.cell? ⟨g9, 0, none⟩ = some (.int .i64 (nAt s.data.toList 0)) ∧ w3.cell? ⟨g9, 1, none⟩ = some (.int .i64 (nAt s.data.toList 1)) ∧ w3.cell? ⟨g9, 2, none⟩ = some (.int .i64 (nAt s.data.toList 2)) from three_cells hblk hct)
  have HG := hid hg9
  clear hg9 hblk hcap hcm hcs hct hb3 hCC
  rw [HQ.out, errV0]
  obtain ⟨⟨r0, r1, r2, r3⟩, rf, rz⟩ := res4 HB3.out
  have HBF := hid (HB0.out.trans (HB3.out.mono (by omega)))
  obtain ⟨k0, k1, k2⟩ := HK.out
  have hg9 : ¬ g9 = w.heap.size := by have h1 := HG.out; have h2 := HZ.out; omega
  have hg9' : ¬ w.heap.size = g9 := fun h => hg9 h.symm
  generalize hn0 : nAt s.data.toList 0 = n0 at *
  generalize hn1 : nAt s.data.toList 1 = n1 at *
  generalize hn2 : nAt s.data.toList 2 = n2 at *
  have HN0 := hid hn0
  have HN1 := hid hn1
  have HN2 := hid hn2
  clear hn0 hn1 hn2
  go_wp2_with fail
  go_region
  all_goals (try go_wp2)
  all_goals
    refine bodyPost_ret (v := .tuple #[.agg #[.int .i64 n0, .int .i64 n1, .int .i64 n2, .slice none 0 0], .nilIface]) (by simp [results, Tryz.results106, go_sem, r0, r1, r2, r3]) rfl ⟨by rw [HN0.out, HN1.out, HN2.out], ?_⟩
    exact ((((HBF.out.setCell (Nat.le_refl _) _).setCell (Nat.le_refl _) _).setCell (Nat.le_refl _) _).setCell (Nat.le_refl _) _).drew
end Ve
end Go.Proofs.YtpafkniapacfdaaGreatDoor
