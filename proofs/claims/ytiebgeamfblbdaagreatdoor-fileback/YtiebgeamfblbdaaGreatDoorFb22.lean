/-
  FileS MsB
-/
import Derived.Test.YtiebgeamfblbdaaGreatDoorFb21
import Derived.Deep.AppendLies
namespace Go.Proofs.YtiebgeamfblbdaaGreatDoor
open Go.RowKit
namespace Ve
def cutAfter (c : UInt8) : List UInt8 → List (List UInt8)
  | [] => [[]]
  | b :: l => if b = c then [c] :: cutAfter c l else ahead b (cutAfter c l)
theorem splitK_ahead1 (b c : UInt8) (h : b ≠ c) (k : Nat) (l : List UInt8) : Lib.splitK [c] 1 k (b :: l) = ahead b (Lib.splitK [c] 1 k l) := by
  cases k with
  | zero => rfl
  | succ k =>
    have hge := Lib.index_ge l [c]
    unfold Lib.splitK
    rw [index_cons_ne b c l h]
    by_cases e : Lib.index l [c] = -1
    · rw [e]; rfl
    · obtain ⟨i, hi⟩ : ∃ i : Nat, Lib.index l [c] = i := ⟨(Lib.index l [c]).toNat, by omega⟩
      rw [hi]
      have e1 : ((i : Int) == -1) = false := by simp
      have e2 : ((i : Int) + 1 == -1) = false := by simp; omega
      have e3 : ((i : Int) + 1).toNat = i + 1 := by omega
      simp [e1, e2, e3, ahead]
theorem splitK_cutAfter (c : UInt8) (l : List UInt8) : Lib.splitK [c] 1 (Lib.count l [c]) l = cutAfter c l := by
  induction l with
  | nil => simp [Lib.count_one, Lib.splitK, cutAfter]
  | cons b l ih =>
    by_cases h : b = c
    · subst h
      rw [Lib.count_cons_eq, Nat.add_comm]
      unfold Lib.splitK
      rw [index_cons_eq]
      simp only [cutAfter, if_true]
      simpa using ih
    · rw [Lib.count_cons_ne b c l h, splitK_ahead1 b c h, ih]
      simp [cutAfter, h]
theorem bl_after (c : UInt8) (s : ByteArray) : bl (Lib.splitB ⟨#[c]⟩ 1 (Lib.countB s ⟨#[c]⟩) s) = cutAfter c s.data.toList := by
  unfold bl
  rw [Lib.splitB_data]
  exact splitK_cutAfter c s.data.toList
def addEnds (c : UInt8) : List (List UInt8) → List (List UInt8)
  | [] => []
  | [x] => [x]
  | x :: y :: r => (x ++ [c]) :: addEnds c (y :: r)
theorem ahead_ends (b c : UInt8) : ∀ l : List (List UInt8), l ≠ [] → ahead b (addEnds c l) = addEnds c (ahead b l)
  | [], h => absurd rfl h
  | [_], _ => rfl
  | _ :: _ :: _, _ => rfl
theorem after_ends (c : UInt8) : ∀ l : List UInt8, cutAfter c l = addEnds c (cutAt c l)
  | [] => rfl
  | b :: l => by
    have ih := after_ends c l
    unfold cutAfter cutAt
    by_cases h : b = c
    · rw [if_pos h, if_pos h, ih]
      cases e : cutAt c l with
      | nil => exact absurd e (cutAt_ne c l)
      | cons y r => rfl
    · rw [if_neg h, if_neg h, ih, ahead_ends b c _ (cutAt_ne c l)]
theorem ends_len (c : UInt8) : ∀ l : List (List UInt8), (addEnds c l).length = l.length
  | [] => rfl
  | [x] => rfl
  | x :: y :: r => by simp only [addEnds, List.length_cons]; rw [ends_len c (y :: r)]; rfl
theorem ends_get (c : UInt8) : ∀ (l : List (List UInt8)) (j : Nat) (h : j < l.length), (addEnds c l)[j]? = some (if j + 1 < l.length then l[j] ++ [c] else l[j])
  | [], _, h => absurd h (Nat.not_lt_zero _)
  | [x], 0, _ => rfl
  | [x], j + 1, h => by simp at h
  | x :: y :: r, 0, _ => by simp [addEnds]
  | x :: y :: r, j + 1, h => by
    have := ends_get c (y :: r) j (by simpa using h)
    simp only [addEnds, List.getElem?_cons_succ, List.getElem_cons_succ]
    rw [this]
    simp
theorem cut_no (c : UInt8) : ∀ (l : List UInt8) (p : List UInt8), p ∈ cutAt c l → c ∉ p
  | [], p, h => by simp [cutAt] at h; simp [h]
  | b :: l, p, h => by
    have ih := cut_no c l
    unfold cutAt at h
    by_cases e : b = c
    · rw [if_pos e] at h
      rcases List.mem_cons.1 h with h | h
      · simp [h]
      · exact ih p h
    · rw [if_neg e] at h
      cases e2 : cutAt c l with
      | nil => exact absurd e2 (cutAt_ne c l)
      | cons y r =>
        rw [e2] at h ih
        have h : p ∈ (b :: y) :: r := h
        rcases List.mem_cons.1 h with h | h
        · rw [h]
          intro hm
          rcases List.mem_cons.1 hm with hm | hm
          · exact e hm.symm
          · exact ih y List.mem_cons_self hm
        · exact ih p (List.mem_cons_of_mem _ h)
def stF (C : List (List UInt8)) : Nat → Fs
  | 0 => noFile
  | i + 1 => (stepF i (cutAt 32 (C.getD i [])) (stF C i)).getD (stF C i)
def lnE (C : List (List UInt8)) (i : Nat) : Nat :=
  if i + 1 < C.length then (if (stepF i (cutAt 32 (C.getD i [])) (stF C i)).isNone then 1 else 0)
  else (if i ≠ 0 ∧ C.getD i [] = [] then 0 else 1)
theorem go_from (C : List (List UInt8)) : ∀ (n i : Nat), i + n = C.length → i < C.length → (∀ j, j < i → lnE C j = 0) → readGo i (C.drop i) (stF C i) = match fstE (lnE C) C.length with
    | some k => .error k
    | none => .ok (stF C (C.length - 1)) := by
  intro n
  induction n with
  | zero => intro i h hi; omega
  | succ n ih =>
    intro i h hi h0
    rw [List.drop_eq_getElem_cons hi]
    have hd : C.getD i [] = C[i] := by simp [List.getD, List.getElem?_eq_getElem hi]
    by_cases hl : i + 1 < C.length
    · have hr : C.drop (i + 1) ≠ [] := by
        intro e
        have := congrArg List.length e
        simp at this; omega
      cases hs : stepF i (cutAt 32 C[i]) (stF C i) with
      | none =>
        have he : lnE C i = 1 := by unfold lnE; rw [if_pos hl, hd, hs]; rfl
        rw [go_bad hr hs, fstE_some h0 (by omega) hi]
      | some f =>
        have he : lnE C i = 0 := by unfold lnE; rw [if_pos hl, hd, hs]; rfl
        have hf : stF C (i + 1) = f := by rw [stF, hd, hs]; rfl
        rw [go_step hr hs, ← hf]
        exact ih (i + 1) (by omega) hl (fun j hj => by
          rcases Nat.lt_or_ge j i with h | h
          · exact h0 j h
          · have : j = i := by omega
            rw [this]; exact he)
    · have hr : C.drop (i + 1) = [] := List.drop_eq_nil_of_le (by omega)
      rw [hr]
      have hn : C.length - 1 = i := by omega
      by_cases hz : i ≠ 0 ∧ C[i] = []
      · have he : lnE C i = 0 := by unfold lnE; rw [if_neg hl, hd, if_pos hz]
        have hf : fstE (lnE C) C.length = none := fstE_none (fun j hj => by
          rcases Nat.lt_or_ge j i with h | h
          · exact h0 j h
          · have : j = i := by omega
            rw [this]; exact he)
        rw [hf, hn, readGo, if_pos ⟨hz.2, hz.1⟩]
      · have he : lnE C i = 1 := by unfold lnE; rw [if_neg hl, hd, if_neg hz]
        rw [fstE_some h0 (by omega) hi, readGo, if_neg (fun h => hz ⟨h.2, h.1⟩)]
theorem readL_is (s : List UInt8) : readL s = match fstE (lnE (cutAt 10 s)) (cutAt 10 s).length with
    | some k => .error k
    | none => .ok (stF (cutAt 10 s) ((cutAt 10 s).length - 1)) := by
  have hp : 0 < (cutAt 10 s).length := List.length_pos_iff.2 (cutAt_ne 10 s)
  have := go_from (cutAt 10 s) (cutAt 10 s).length 0 (by omega) hp (fun j hj => absurd hj (by omega))
  rw [List.drop_zero] at this
  exact this
theorem step_many {i : Nat} {ws : List (List UInt8)} {f f' : Fs} (h : stepF i ws f = some f') : f'.2.1.length + f'.2.2.length ≤ f.2.1.length + f.2.2.length + 1 := by
  unfold stepF at h
  split at h
  · split at h
    · split at h
      · simp only [Option.some.injEq] at h; subst h; simp
      · cases h
    · cases h
  · split at h
    · split at h
      · simp only [Option.some.injEq] at h; subst h; simp; omega
      · split at h
        · simp only [Option.some.injEq] at h; subst h; simp; omega
        · cases h
    · cases h
theorem st_many (C : List (List UInt8)) : ∀ i, (stF C i).2.1.length + (stF C i).2.2.length ≤ i
  | 0 => by simp [stF, noFile]
  | i + 1 => by
    have ih := st_many C i
    unfold stF
    cases h : stepF i (cutAt 32 (C.getD i [])) (stF C i) with
    | none => simp; omega
    | some f => have := step_many h; simp; omega
end Ve
end Go.Proofs.YtiebgeamfblbdaaGreatDoor
namespace Go.Proofs.YtiebgeamfblbdaaGreatDoor
open Go.RowKit
namespace Ve
def flatM (L : List Bm) : List Value := L.flatMap fun m => [.string m.1, .string m.2]
theorem flatM_len (L : List Bm) : (flatM L).length = L.length * 2 := by
  induction L with
  | nil => rfl
  | cons r R ih =>
    have : flatM (r :: R) = [.string r.1, .string r.2] ++ flatM R := rfl
    rw [this, List.length_append, ih]
    show 2 + R.length * 2 = (R.length + 1) * 2
    omega
theorem flatM_app (D E : List Bm) : flatM (D ++ E) = flatM D ++ flatM E := by simp [flatM]
theorem flatM_get : ∀ (D : List Bm) (j c : Nat) (hj : j < D.length) (_ : c < 2), (flatM D)[j * 2 + c]? = [Value.string D[j].1, Value.string D[j].2][c]?
  | [], _, _, hj, _ => absurd hj (Nat.not_lt_zero _)
  | r :: R, 0, c, _, hc => by
    have : flatM (r :: R) = [.string r.1, .string r.2] ++ flatM R := rfl
    rw [this, List.getElem?_append_left (by show 0 * 2 + c < 2; omega)]
    simp
  | r :: R, j + 1, c, hj, hc => by
    have : flatM (r :: R) = [.string r.1, .string r.2] ++ flatM R := rfl
    rw [this, List.getElem?_append_right (by show 2 ≤ (j + 1) * 2 + c; omega), show (j + 1) * 2 + c - [Value.string r.1, Value.string r.2].length = j * 2 + c by simp; omega]
    exact flatM_get R j c (by simpa using hj) hc
theorem own_ms {w : World} {base : Nat} {e : TypeId} {v : Value} {L : List Bm} (h : w.ownsRow base e 2 v L.length (flatM L)) : MsAt w v L := by
  obtain ⟨_, ⟨hv, hn0⟩ | ⟨g, cap, cur, hv, hg, hblk, hcap, hcm, hcs, hct⟩⟩ := h
  · exact ⟨none, 0, by rw [hv, hn0], by omega, fun hL => absurd (List.length_eq_zero_iff.1 hn0) hL⟩
  · refine ⟨_, cap, hv, hcap, fun _ => ⟨g, 0, rfl, fun j hj => ?_⟩⟩
    have go : ∀ c, c < 2 → w.cell? ⟨g, 0 + j * 2 + c, none⟩ = [Value.string L[j].1, Value.string L[j].2][c]? := fun c hc => by
      have h1 := flatM_get L j c hj hc
      rw [← hct, List.getElem?_take, if_pos (by omega)] at h1
      simp only [World.cell?, hblk]
      rw [← h1]; simp
    exact ⟨by have := go 0 (by omega); simpa using this, by have := go 1 (by omega); simpa using this⟩
theorem own_ne2 {w : World} {B : Nat} {e T : TypeId} {v : Value} {n : Nat} {xs : List Value} {b : Nat} {cs : Array Value} {fr : Nat × Nat} (hown : w.ownsRow B e 2 v n xs) (hb : w.heap[b]? = some (.cells cs T fr)) (hTe : T ≠ e) : v.ownBlock ≠ some b := by
  rcases hown.2 with ⟨rfl, _⟩ | ⟨g, cap, cur, rfl, _, hg, _⟩
  · simp [Value.ownBlock]
  · intro h
    simp only [Value.ownBlock, Option.some.injEq] at h
    subst h
    rw [hg] at hb
    simp only [Option.some.injEq, Obj.cells.injEq] at hb
    exact hTe hb.2.1.symm
theorem keep_set {W : World} {fb o b : Nat} {x : Value} {ob : Obj} (h : W.heap[b]? = some ob) (hne : b ≠ fb) : (W.setCell ⟨fb, o, none⟩ x).heap[b]? = some ob := by
  rw [Below.heap_setCell _ _ _ _ hne]; exact h
theorem set_block {W : World} {fb o : Nat} {cs : Array Value} {T : TypeId} {x : Value} (h : W.heap[fb]? = some (.cells cs T (0, 0))) : (W.setCell ⟨fb, o, none⟩ x).heap[fb]? = some (.cells (cs.setIfInBounds o x) T (0, 0)) := by
  simp [World.setCell, Array.getElem?_modify, h]
theorem owns_set {W : World} {B fb o n : Nat} {e : TypeId} {v x : Value} {xs : List Value} (h : W.ownsRow B e 2 v n xs) (hne : v.ownBlock ≠ some fb) : (W.setCell ⟨fb, o, none⟩ x).ownsRow B e 2 v n xs :=
  h.kept (row := some fb) ⟨rfl, rfl, rfl, by simp [World.setCell], fun k _ hk => Below.heap_setCell _ _ _ _ (fun e => hk (by simp [e]))⟩ (Or.inr hne)
theorem owns_far {W W3 : World} {B n : Nat} {e : TypeId} {v : Value} {xs : List Value} {row : Option Nat} (h : W.ownsRow B e 2 v n xs) (hg : W.grownBy W3 row) (hne : ∀ g, v.ownBlock = some g → row ≠ some g) : W3.ownsRow B e 2 v n xs := by
  obtain ⟨hl, h | ⟨g, cap, cur, e1, e2, e3, e4, e5, e6, e7⟩⟩ := h
  · exact ⟨hl, Or.inl h⟩
  · refine ⟨hl, Or.inr ⟨g, cap, cur, e1, e2, ?_, e4, e5, e6, e7⟩⟩
    rw [hg.block g (lt_of_blk e3) (fun h => hne g (by rw [e1]; rfl) h.symm)]; exact e3
theorem own_lt {W : World} {B n g : Nat} {e : TypeId} {v : Value} {xs : List Value} (h : W.ownsRow B e 2 v n xs) (hv : v.ownBlock = some g) : g < W.heap.size ∧ B ≤ g := by
  obtain ⟨hl, ⟨h, _⟩ | ⟨g', cap, cur, e1, e2, e3, _⟩⟩ := h
  · rw [h] at hv; cases hv
  · rw [e1] at hv
    have : g' = g := by simpa [Value.ownBlock] using hv
    subst this
    exact ⟨lt_of_blk e3, e2⟩
theorem heap_new (w : World) (o : Obj) : (w.alloc o).heap[w.heap.size]? = some o := heap_alloc_new w o
theorem heap_old (w : World) (o : Obj) {b : Nat} {x : Obj} (h : w.heap[b]? = some x) : (w.alloc o).heap[b]? = some x := by
  rw [((Below.refl w.heap.size w).alloc (Nat.le_refl _) o).block b (lt_of_blk h)]; exact h
theorem own_base {W : World} {B B' n : Nat} {e : TypeId} {v : Value} {xs : List Value} (h : W.ownsRow B e 2 v n xs) (hB : B' ≤ B) : W.ownsRow B' e 2 v n xs := by
  obtain ⟨hl, h | ⟨g, cap, cur, e1, e2, e3, e4, e5, e6, e7⟩⟩ := h
  · exact ⟨hl, Or.inl h⟩
  · exact ⟨hl, Or.inr ⟨g, cap, cur, e1, Nat.le_trans hB e2, e3, e4, e5, e6, e7⟩⟩
def put3 (W : World) (b : Nat) (x y z : Value) : World := ((W.setCell ⟨b, 0, none⟩ x).setCell ⟨b, 1, none⟩ y).setCell ⟨b, 2, none⟩ z
theorem put3_below {W w : World} {B b : Nat} {x y z : Value} (h : Below B w W) (hb : B ≤ b) : Below B w (put3 W b x y z) :=
  ((h.setCell (p := ⟨b, 0, none⟩) hb _).setCell (p := ⟨b, 1, none⟩) hb _).setCell (p := ⟨b, 2, none⟩) hb _
theorem put3_cell {W : World} {b b' o : Nat} {x y z : Value} (h : b' ≠ b) : (put3 W b x y z).cell? ⟨b', o, none⟩ = W.cell? ⟨b', o, none⟩ := by
  unfold put3
  have go : ∀ (V : World) (k : Nat) (q : Value), (V.setCell ⟨b, k, none⟩ q).cell? ⟨b', o, none⟩ = V.cell? ⟨b', o, none⟩ := fun V k q => World.cell?_of_block (Below.heap_setCell _ _ _ _ h)
  rw [go, go, go]
theorem put3_owns {W : World} {B b n : Nat} {e : TypeId} {v x y z : Value} {xs : List Value} (h : W.ownsRow B e 2 v n xs) (hne : v.ownBlock ≠ some b) : (put3 W b x y z).ownsRow B e 2 v n xs :=
  owns_set (owns_set (owns_set h hne) hne) hne
theorem res3f {w w3 : World} {a b c : Value} {T : TypeId} (hb : Below (w.heap.size + 1) (w.alloc (.cells #[a, b, c] T)) w3) : ∀ o, w3.frozen? ⟨w.heap.size, o, none⟩ = false := by
  intro o; rw [hb.frozen (by simp)]; simp
theorem res3b {w w3 : World} {a b c : Value} {T : TypeId} (hb : Below (w.heap.size + 1) (w.alloc (.cells #[a, b, c] T)) w3) : w3.heap[w.heap.size]? = some (.cells #[a, b, c] T (0, 0)) := by
  rw [hb.block _ (by simp)]; exact heap_new w _
theorem own_sl {W : World} {B n : Nat} {e : TypeId} {v : Value} {xs : List Value} (h : W.ownsRow B e 2 v n xs) : ∃ a n c, v = .slice a n c := by
  obtain ⟨_, ⟨h, _⟩ | ⟨g, cap, cur, e1, _⟩⟩ := h
  · exact ⟨_, _, _, h⟩
  · exact ⟨_, _, _, e1⟩
theorem ms_flat {w : World} {b o : Nat} {L : List Bm} (hc : ∀ j (h : j < L.length), w.cell? ⟨b, o + j * 2, none⟩ = some (.string L[j].1) ∧ w.cell? ⟨b, o + j * 2 + 1, none⟩ = some (.string L[j].2)) : ∀ j u, (flatM L)[j]? = some u → w.cell? ⟨b, o + j, none⟩ = some u := by
  intro j u hj
  have hl : j < L.length * 2 := by rw [← flatM_len]; exact (List.getElem?_eq_some_iff.1 hj).1
  have h1 := flatM_get L (j / 2) (j % 2) (by omega) (by omega)
  rw [show j / 2 * 2 + j % 2 = j by omega, hj] at h1
  have h2 := hc (j / 2) (by omega)
  rcases Nat.mod_two_eq_zero_or_one j with e | e
  · rw [e] at h1
    have : u = .string L[j / 2].1 := by simpa using h1
    rw [this, ← h2.1]
    congr 2; omega
  · rw [e] at h1
    have : u = .string L[j / 2].2 := by simpa using h1
    rw [this, ← h2.2]
    congr 2; omega
theorem flat_one (L : List Bm) : ∀ u ∈ flatM L, u.oneCell' = true := by
  intro u hu
  obtain ⟨m, _, hm⟩ := List.mem_flatMap.1 hu
  simp at hm
  rcases hm with rfl | rfl <;> rfl
theorem infoMod : (Tryz.prog.info? 26).map (fun i => (i.zero, i.size, i.bytes)) = some (some (.agg #[.string ⟨#[]⟩, .string ⟨#[]⟩]), 2, 32) := by kernel_rfl
end Ve
end Go.Proofs.YtiebgeamfblbdaaGreatDoor
