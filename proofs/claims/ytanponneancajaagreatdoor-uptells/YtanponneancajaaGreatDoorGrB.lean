/-
  The map of who came by whom, in memory; what graph.came answers.
-/
import Derived.Test.YtanponneancajaaGreatDoorGrA
import Derived.Test.YtanponneancajaaGreatDoorMsB
import Derived.Maps.OwnSet
import Derived.DeepKeys4
import Derived.MapViews
namespace Go.Proofs.YtanponneancajaaGreatDoor
open Go.RowKit Go.Maps
namespace Ve

theorem gLaidOut : laidOutB Tryz.prog = true := by kernel_rfl
theorem modRow : 51 < Tryz.prog.types.size := of_decide_eq_true (by kernel_rfl)
theorem modDeep : Tryz.prog.keyTypeAt 2 51 = true := by kernel_rfl
theorem modKeyT : Tryz.prog.keyType 51 = true := by kernel_rfl
theorem modKey : Keyed Tryz.prog 51 := Keyed.of_law (deep_law_laid gLaidOut (m := 2) (by omega) modRow modDeep (by kernel_rfl))
theorem gCellsMod : Tryz.prog.cellsOf 51 = 2 := by kernel_rfl
theorem gCellsStr : Tryz.prog.cellsOf 9 = 1 := by kernel_rfl
/-- A module as a value, and as a key. -/
def modV (m : Bm) : Value := .agg #[.string m.1, .string m.2]
def kL (m : Bm) : Lit := .string (keyBytes [.string m.1.data.toList, .string m.2.data.toList])
theorem keyLits_mod (n : Nat) (m : Bm) (h1 : m.1.size ≤ maxLen) (h2 : m.2.size ≤ maxLen) : Tryz.prog.keyLits (n + 2) 51 [.string m.1, .string m.2] = some [.string m.1.data.toList, .string m.2.data.toList] := by
  unfold Program.keyLits
  rw [Tryz.underlying51]
  simp [gCellsMod, gCellsStr, Program.keyLits, Tryz.underlying9, h1, h2]
theorem keyOf_mod (m : Bm) (h1 : m.1.size ≤ maxLen) (h2 : m.2.size ≤ maxLen) : keyOf Tryz.prog 51 (modV m) = some (kL m) := by
  have hf : (modV m).formed Tryz.prog 51 = true := by
    simp [modV, Value.formed, Tryz.underlying51, gCellsMod]
  have hl : Tryz.prog.keyLits (Tryz.prog.types.size + 1) 51 (modV m).cells.toList = some [.string m.1.data.toList, .string m.2.data.toList] := by
    obtain ⟨n, hn⟩ : ∃ n, Tryz.prog.types.size + 1 = n + 2 := ⟨Tryz.prog.types.size - 1, by have := modRow; omega⟩
    rw [hn]
    exact keyLits_mod n m h1 h2
  unfold keyOf
  rw [Tryz.underlying51]
  simp only
  rw [if_pos (by rw [modKeyT, hf]; rfl), hl]
  rfl
theorem kL_inj {a b : Bm} (ha1 : a.1.size ≤ maxLen) (ha2 : a.2.size ≤ maxLen) (hb1 : b.1.size ≤ maxLen) (hb2 : b.2.size ≤ maxLen) (h : kL a = kL b) : a = b := by
  have h1 := keyOf_mod a ha1 ha2
  have h2 := keyOf_mod b hb1 hb2
  rw [h] at h1
  have := modKey.inj h1 h2
  simp only [modV, Value.agg.injEq, Array.mk.injEq, List.cons.injEq, Value.string.injEq, and_true] at this
  exact Prod.ext this.1 this.2
theorem kL_key (m : Bm) : WideAt.IsKeyLit (kL m) := trivial
/-- How an element of the map reads. -/
def rB : Value → Option (DataW Bm × List MemPlace)
  | .agg cs => match cs.toList with
    | [.string a, .string b] => some (.held (a, b), [])
    | _ => none
  | _ => none
theorem rB_mod (m : Bm) : rB (modV m) = some (.held m, []) := rfl
theorem rB_inv {v : Value} {m : Bm} {ps : List MemPlace} (h : rB v = some (.held m, ps)) : v = modV m := by
  cases v with
  | agg cs =>
    simp only [rB] at h
    split at h
    · rename_i a b e
      simp only [Option.some.injEq, Prod.mk.injEq, DataW.held.injEq] at h
      obtain ⟨h1, _⟩ := h
      subst h1
      unfold modV
      congr 1
      exact Array.toList_inj.1 e
    · cases h
  | _ => cases h
/-- What the map reads as. -/
def datB (T : By) : DataW Bm := T.foldl (fun D x => D.put (kL x.1) (.held x.2)) (.map [])
theorem datB_app (T : By) (m f : Bm) : datB (T ++ [(m, f)]) = (datB T).put (kL m) (.held f) := by simp [datB, List.foldl_append]
/-- Modules of lengths that there are. -/
def szT (T : By) : Prop := ∀ x, x ∈ T → x.1.1.size ≤ maxLen ∧ x.1.2.size ≤ maxLen
theorem datB_map : ∀ T : By, IsMap (datB T) := fun T => by
  unfold datB
  suffices ∀ (T : By) (D : DataW Bm), IsMap D → IsMap (T.foldl (fun D x => D.put (kL x.1) (.held x.2)) D) from this T _ isMap_empty
  intro T
  induction T with
  | nil => exact fun D h => h
  | cons x r ih => exact fun D h => ih _ (h.put _ _)
theorem datB_has {m : Bm} (h1 : m.1.size ≤ maxLen) (h2 : m.2.size ≤ maxLen) : ∀ {T : By}, szT T → has (datB T) (kL m) = cameB T m := fun {T} hT => by
  suffices ∀ (T : By) (D : DataW Bm), IsMap D → szT T → has (T.foldl (fun D x => D.put (kL x.1) (.held x.2)) D) (kL m) = (has D (kL m) || cameB T m) by
    have := this T (.map []) isMap_empty hT
    unfold datB
    rw [this]
    simp [has_eq]
  intro T
  induction T with
  | nil => intro D _ _; simp [cameB]
  | cons x r ih =>
    intro D hD hs
    rw [List.foldl_cons, ih _ (hD.put _ _) (fun y hy => hs y (List.mem_cons_of_mem _ hy))]
    by_cases e : x.1 = m
    · subst e
      rw [has_put_same hD (kL_key _)]
      simp [cameB]
    · have hx := hs x (by simp)
      rw [has_put_other (fun he => e (kL_inj hx.1 hx.2 h1 h2 he.symm))]
      have : cameB (x :: r) m = cameB r m := by
        unfold cameB
        rw [List.any_cons, decide_eq_false (fun he => e (Prod.ext he.1 he.2)), Bool.false_or]
      rw [this]
theorem datB_at {T : By} (hT : szT T) (hn : (whoT T).Nodup) {k : Nat} (hk : k < T.length) (z : DataW Bm) : (datB T).atKey (kL T[k].1) z = .held T[k].2 := by
  suffices ∀ (T : By) (D : DataW Bm), IsMap D → szT T → (whoT T).Nodup → ∀ k (hk : k < T.length), (T.foldl (fun D x => D.put (kL x.1) (.held x.2)) D).atKey (kL T[k].1) z = .held T[k].2 from this T _ isMap_empty hT hn k hk
  clear hT hn hk
  intro T
  induction T with
  | nil => intro D _ _ _ k hk; simp at hk
  | cons x r ih =>
    intro D hD hs hn k hk
    have hn2 : (x.1 :: whoT r).Nodup := hn
    obtain ⟨n1, n2⟩ := List.nodup_cons.1 hn2
    rw [List.foldl_cons]
    cases k with
    | succ k =>
      simp only [List.getElem_cons_succ]
      exact ih _ (hD.put _ _) (fun y hy => hs y (List.mem_cons_of_mem _ hy)) n2 k (by simpa using hk)
    | zero =>
      simp only [List.getElem_cons_zero]
      have hx := hs x (by simp)
      have : ∀ (r : By) (D : DataW Bm), szT r → x.1 ∉ whoT r → (r.foldl (fun D x => D.put (kL x.1) (.held x.2)) D).atKey (kL x.1) z = D.atKey (kL x.1) z := by
        intro r
        induction r with
        | nil => intro D _ _; rfl
        | cons y r ih2 =>
          intro D hs2 hn3
          have hy := hs2 y (by simp)
          rw [List.foldl_cons, ih2 _ (fun y hy => hs2 y (List.mem_cons_of_mem _ hy)) (fun h => hn3 (List.mem_cons_of_mem _ h))]
          exact atKey_put_other (fun he => hn3 (by rw [kL_inj hx.1 hx.2 hy.1 hy.2 he]; simp [whoT])) _ _
      rw [this r _ (fun y hy => hs y (List.mem_cons_of_mem _ hy)) n1]
      exact atKey_put_same hD (kL_key _) _ _
theorem datB_held (T : By) (k : Lit) (z : Bm) : ∃ x, (datB T).atKey k (.held z) = .held x := by
  suffices ∀ (T : By) (D : DataW Bm), IsMap D → (∃ x, D.atKey k (.held z) = .held x) → ∃ x, (T.foldl (fun D x => D.put (kL x.1) (.held x.2)) D).atKey k (.held z) = .held x from this T _ isMap_empty ⟨z, rfl⟩
  intro T
  induction T with
  | nil => exact fun D _ h => h
  | cons x r ih =>
    intro D hD h
    refine ih _ (hD.put _ _) ?_
    by_cases e : k = kL x.1
    · subst e
      exact ⟨x.2, atKey_put_same hD (kL_key _) _ _⟩
    · rw [atKey_put_other e]
      exact h
/-- The map lies in memory. -/
def ByAt (w : World) (b : Nat) (T : By) : Prop := w.ownsMap Tryz.prog 51 rB b T.length (datB T)
theorem ByAt.below {w w' : World} {b : Nat} {T : By} (h : ByAt w b T) (hb : Below w.heap.size w w') : ByAt w' b T := by
  have hlt := World.ownsMap.lt h
  obtain ⟨es, clock, h1, F, hs, hD⟩ := h
  exact ⟨es, clock, (hb.block b hlt).trans h1, F, hs, hD⟩
theorem ByAt.heap {w w' : World} {b : Nat} {T : By} (h : ByAt w b T) (hb : w'.heap[b]? = w.heap[b]?) : ByAt w' b T := by
  obtain ⟨es, clock, h1, F, hs, hD⟩ := h
  exact ⟨es, clock, hb.trans h1, F, hs, hD⟩
theorem zeroMod (w : World) : (zeroValue 51).run Tryz.prog w = .ok (modV (⟨#[]⟩, ⟨#[]⟩)) w := Tryz.zeroValue51 w
set_option maxRecDepth 100000 in
set_option maxHeartbeats 1000000 in
/-- graph.came. -/
theorem came_any (b : Nat) (T : By) (m : Bm) (w : World) (hm : m.1.size ≤ maxLen ∧ m.2.size ≤ maxLen) (hT : szT T) (h : ByAt w b T) :
    Calls Tryz.prog 168 #[.map (some b), .agg #[.string m.1, .string m.2]] w fun e w' => e = .returned (.bool (cameB T m)) ∧ Below w.heap.size w w' := by
  have HB := hid ((Below.refl w.heap.size w).alloc (Nat.le_refl _) (.cells #[.string m.1, .string m.2] 51))
  obtain ⟨v, ps, hrun, hv⟩ := World.ownsMap.look_ok (h.below HB.out) modKey Tryz.underlying179 (zeroMod _) (rB_mod _) (keyOf_mod m hm.1 hm.2)
  rw [datB_has hm.1 hm.2 hT] at hrun
  obtain ⟨x, hx⟩ := datB_held T (kL m) (⟨#[]⟩, ⟨#[]⟩)
  rw [hx] at hv
  obtain rfl := rB_inv hv
  unfold modV at hrun
  clear h hv hx hm hT
  go_enter Tryz.func168, Tryz.ntmps168
  go_wp2_with fail
  go_ret
  exact ⟨rfl, HB.out.alloc HB.out.size _⟩
end Ve
end Go.Proofs.YtanponneancajaaGreatDoor
