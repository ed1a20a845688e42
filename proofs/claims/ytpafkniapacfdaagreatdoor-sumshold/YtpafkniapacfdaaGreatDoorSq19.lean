
import Derived.Test.YtpafkniapacfdaaGreatDoorSq6
import Derived.Test.YtpafkniapacfdaaGreatDoorSq16
import Derived.Maps.OwnSet
import Derived.DeepKeys4
import Derived.MapViews
import Derived.Test.YtpafkniapacfdaaGreatDoorSq17
import Derived.Test.YtpafkniapacfdaaGreatDoorSq14
import Derived.Deep.RegionHeld
import Derived.Laws.AppendOwnNone
import Derived.Test.YtpafkniapacfdaaGreatDoorSq8
import Derived.OwnWalk
import Derived.Deep.AppendLies
namespace Go.Proofs.YtpafkniapacfdaaGreatDoor
open Go.RowKit Go.Maps
namespace Ve
theorem gLaidOut : laidOutB Tryz.prog = true := by kernel_rfl
theorem modRow : 42 < Tryz.prog.types.size := of_decide_eq_true (by kernel_rfl)
theorem modDeep : Tryz.prog.keyTypeAt 2 42 = true := by kernel_rfl
theorem modKeyT : Tryz.prog.keyType 42 = true := by kernel_rfl
theorem modKey : Keyed Tryz.prog 42 := Keyed.of_law (deep_law_laid gLaidOut (m := 2) (by omega) modRow modDeep (by kernel_rfl))
theorem gCellsMod : Tryz.prog.cellsOf 42 = 2 := by kernel_rfl
theorem gCellsStr : Tryz.prog.cellsOf 9 = 1 := by kernel_rfl
def modV (m : Bm) : Value := .agg #[.string m.1, .string m.2]
def kL (m : Bm) : Lit := .string (keyBytes [.string m.1.data.toList, .string m.2.data.toList])
theorem keyLits_mod (n : Nat) (m : Bm) (h1 : m.1.size ≤ maxLen) (h2 : m.2.size ≤ maxLen) : Tryz.prog.keyLits (n + 2) 42 [.string m.1, .string m.2] = some [.string m.1.data.toList, .string m.2.data.toList] := by
  unfold Program.keyLits
  rw [Tryz.underlying42]
  simp [gCellsMod, gCellsStr, Program.keyLits, Tryz.underlying9, h1, h2]
theorem keyOf_mod (m : Bm) (h1 : m.1.size ≤ maxLen) (h2 : m.2.size ≤ maxLen) : keyOf Tryz.prog 42 (modV m) = some (kL m) := by
  have hf : (modV m).formed Tryz.prog 42 = true := by
    simp [modV, Value.formed, Tryz.underlying42, gCellsMod]
  have hl : Tryz.prog.keyLits (Tryz.prog.types.size + 1) 42 (modV m).cells.toList = some [.string m.1.data.toList, .string m.2.data.toList] := by
    obtain ⟨n, hn⟩ : ∃ n, Tryz.prog.types.size + 1 = n + 2 := ⟨Tryz.prog.types.size - 1, by have := modRow; omega⟩
    rw [hn]
    exact keyLits_mod n m h1 h2
  unfold keyOf
  rw [Tryz.underlying42]
  simp only
  rw [if_pos (by rw [modKeyT, hf]; rfl), hl]
  rfl
theorem kL_inj {a b : Bm} (ha1 : a.1.size ≤ maxLen) (ha2 : a.2.size ≤ maxLen) (hb1 : b.1.size ≤ maxLen) (hb2 : b.2.size ≤ maxLen) (h : kL a = kL b) : a = b := by
  have h1 := keyOf_mod a ha1 ha2
  have h2 := keyOf_mod b hb1 hb2
  rw [h] at h1
  have := modKey.inj h1 h2
  simp only [modV, Value.agg.injEq, Array.mk.injEq, List.cons.injEq, Value.string.injEq, and_true] at this
  exact Prod.ext this.1 this.2
theorem kL_key (m : Bm) : WideAt.IsKeyLit (kL m) := trivial
def rB : Value → Option (DataW Bm × List MemPlace)
  | .agg cs => match cs.toList with
    | [.string a, .string b] => some (.held (a, b), [])
    | _ => none
  | _ => none
theorem rB_mod (m : Bm) : rB (modV m) = some (.held m, []) := rfl
theorem rB_inv {v : Value} {m : Bm} {ps : List MemPlace} (h : rB v = some (.held m, ps)) : v = modV m := by
  cases v with
  | agg cs =>
    simp only [rB] at h
    split at h
    · rename_i a b e
      simp only [Option.some.injEq, Prod.mk.injEq, DataW.held.injEq] at h
      obtain ⟨h1, _⟩ := h
      subst h1
      unfold modV
      congr 1
      exact Array.toList_inj.1 e
    · cases h
  | _ => cases h
def datB (T : By) : DataW Bm := T.foldl (fun D x => D.put (kL x.1) (.held x.2)) (.map [])
theorem datB_app (T : By) (m f : Bm) : datB (T ++ [(m, f)]) = (datB T).put (kL m) (.held f) := by simp [datB, List.foldl_append]
def szT (T : By) : Prop := ∀ x, x ∈ T → x.1.1.size ≤ maxLen ∧ x.1.2.size ≤ maxLen
theorem datB_has {m : Bm} (h1 : m.1.size ≤ maxLen) (h2 : m.2.size ≤ maxLen) : ∀ {T : By}, szT T → has (datB T) (kL m) = cameB T m := fun {T} hT => by
  suffices ∀ (T : By) (D : DataW Bm), IsMap D → szT T → has (T.foldl (fun D x => D.put (kL x.1) (.held x.2)) D) (kL m) = (has D (kL m) || cameB T m) by
    have := this T (.map []) isMap_empty hT
    unfold datB
    rw [this]
    simp [has_eq]
  intro T
  induction T with
  | nil => intro D _ _; simp [cameB]
  | cons x r ih =>
    intro D hD hs
    rw [List.foldl_cons, ih _ (hD.put _ _) (fun y hy => hs y (List.mem_cons_of_mem _ hy))]
    by_cases e : x.1 = m
    · subst e
      rw [has_put_same hD (kL_key _)]
      simp [cameB]
    · have hx := hs x (by simp)
      rw [has_put_other (fun he => e (kL_inj hx.1 hx.2 h1 h2 he.symm))]
      have : cameB (x :: r) m = cameB r m := by
        unfold cameB
        rw [List.any_cons, decide_eq_false (fun he => e (Prod.ext he.1 he.2)), Bool.false_or]
      rw [this]
theorem datB_held (T : By) (k : Lit) (z : Bm) : ∃ x, (datB T).atKey k (.held z) = .held x := by
  suffices ∀ (T : By) (D : DataW Bm), IsMap D → (∃ x, D.atKey k (.held z) = .held x) → ∃ x, (T.foldl (fun D x => D.put (kL x.1) (.held x.2)) D).atKey k (.held z) = .held x from this T _ isMap_empty ⟨z, rfl⟩
  intro T
  induction T with
  | nil => exact fun D _ h => h
  | cons x r ih =>
    intro D hD h
    refine ih _ (hD.put _ _) ?_
    by_cases e : k = kL x.1
    · subst e
      exact ⟨x.2, atKey_put_same hD (kL_key _) _ _⟩
    · rw [atKey_put_other e]
      exact h
def ByAt (w : World) (b : Nat) (T : By) : Prop := w.ownsMap Tryz.prog 42 rB b T.length (datB T)
theorem ByAt.below {w w' : World} {b : Nat} {T : By} (h : ByAt w b T) (hb : Below w.heap.size w w') : ByAt w' b T := by
  have hlt := World.ownsMap.lt h
  obtain ⟨es, clock, h1, F, hs, hD⟩ := h
  exact ⟨es, clock, (hb.block b hlt).trans h1, F, hs, hD⟩
theorem ByAt.heap {w w' : World} {b : Nat} {T : By} (h : ByAt w b T) (hb : w'.heap[b]? = w.heap[b]?) : ByAt w' b T := by
  obtain ⟨es, clock, h1, F, hs, hD⟩ := h
  exact ⟨es, clock, hb.trans h1, F, hs, hD⟩
theorem zeroMod (w : World) : (zeroValue 42).run Tryz.prog w = .ok (modV (⟨#[]⟩, ⟨#[]⟩)) w := Tryz.zeroValue42 w
set_option maxRecDepth 100000 in
set_option maxHeartbeats 1000000 in
theorem came_any (b : Nat) (T : By) (m : Bm) (w : World) (hm : m.1.size ≤ maxLen ∧ m.2.size ≤ maxLen) (hT : szT T) (h : ByAt w b T) :
    Calls Tryz.prog 94 #[.map (some b), .agg #[.string m.1, .string m.2]] w fun e w' => e = .returned (.bool (cameB T m)) ∧ Below w.heap.size w w' := by
  have HB := hid ((Below.refl w.heap.size w).alloc (Nat.le_refl _) (.cells #[.string m.1, .string m.2] 42))
  obtain ⟨v, ps, hrun, hv⟩ := World.ownsMap.look_ok (h.below HB.out) modKey Tryz.underlying148 (zeroMod _) (rB_mod _) (keyOf_mod m hm.1 hm.2)
  rw [datB_has hm.1 hm.2 hT] at hrun
  obtain ⟨x, hx⟩ := datB_held T (kL m) (⟨#[]⟩, ⟨#[]⟩)
  rw [hx] at hv
  obtain rfl := rB_inv hv
  unfold modV at hrun
  clear h hv hx hm hT
  go_enter Tryz.func94, Tryz.ntmps94
  go_wp2_with fail
  go_ret
  exact ⟨rfl, HB.out.alloc HB.out.size _⟩
end Ve
end Go.Proofs.YtpafkniapacfdaaGreatDoor


namespace Go.Proofs.YtpafkniapacfdaaGreatDoor
open Go.RowKit
namespace Ve
end Ve
end Go.Proofs.YtpafkniapacfdaaGreatDoor


namespace Go.Proofs.YtpafkniapacfdaaGreatDoor
open Go.RowKit
namespace Ve
end Ve
end Go.Proofs.YtpafkniapacfdaaGreatDoor


namespace Go.Proofs.YtpafkniapacfdaaGreatDoor
open Go.RowKit
namespace Ve
abbrev Ent := Bm × List Bm × List ByteArray × Bool
structure RawOk (w : World) (r : Raw) (e : Ent) : Prop where
  m : r.1 = e.1
  rq : MsAt w r.2.1 e.2.1
  pk : TxAt w r.2.2.1 e.2.2.1
  bk : r.2.2.2 = e.2.2.2
theorem RawOk.below {w w' : World} {r : Raw} {e : Ent} (h : RawOk w r e) (hb : Below w.heap.size w w') : RawOk w' r e := ⟨h.m, h.rq.below hb, h.pk.below hb, h.bk⟩
structure Ixs (w : World) (v : Value) (Q : List Raw) (L : List Ent) : Prop where
  es : EsAt w v Q
  ln : Q.length = L.length
  ok : ∀ j (h : j < Q.length) (h' : j < L.length), RawOk w Q[j] L[j]
theorem Ixs.below {w w' : World} {v : Value} {Q : List Raw} {L : List Ent} (h : Ixs w v Q L) (hb : Below w.heap.size w w') : Ixs w' v Q L := ⟨h.es.below hb, h.ln, fun j h1 h2 => (h.ok j h1 h2).below hb⟩
def okP (X : List ByteArray) : Bool := X.all fun x => decide (x.size ≤ 70)
def okE (e : Ent) : Bool := decide (e.1.1.size ≤ 70) && decide (e.1.2.size ≤ 60) && okL e.2.1 && decide (e.2.2.1.length ≤ 15) && okP e.2.2.1
def okN (n : Nat) : Bool := decide (n ≤ 30) || decide (n = 101)
def okI (L : List Ent) : Bool := okN L.length && L.all okE
def pfxE (L : List Ent) (k : Nat) : Bool := (L.take k).all okE
theorem okE_next {L : List Ent} {k : Nat} (hk : k < L.length) (h : pfxE L k = true) (hm : okE L[k] = true) : pfxE L (k + 1) = true := by
  unfold pfxE at h ⊢
  rw [List.take_succ_eq_append_getElem hk, List.all_append, h]
  simp [hm]
theorem okE_not {L : List Ent} {k : Nat} (hk : k < L.length) (hm : okE L[k] = false) : L.all okE = false := by
  cases e : L.all okE
  · rfl
  · have := List.all_eq_true.1 e L[k] (List.getElem_mem hk)
    rw [hm] at this; cases this
theorem okP_next {X : List ByteArray} {k : Nat} (hk : k < X.length) (h : okP (X.take k) = true) (hm : X[k].size ≤ 70) : okP (X.take (k + 1)) = true := by
  unfold okP at h ⊢
  rw [List.take_succ_eq_append_getElem hk, List.all_append, h]
  simp [hm]
theorem okP_not {X : List ByteArray} {k : Nat} (hk : k < X.length) (hm : ¬ X[k].size ≤ 70) : okP X = false := by
  cases e : okP X
  · rfl
  · have := List.all_eq_true.1 e X[k] (List.getElem_mem hk)
    exact absurd (of_decide_eq_true this) hm
theorem okN_yes {n : Nat} (h : okN n = true) : ¬ (30 : Int) < (n : Int) ∨ ((30 : Int) < (n : Int) ∧ ((n : Int) != 101) = false) := by
  unfold okN at h
  rw [Bool.or_eq_true] at h
  rcases h with h | h
  · left; have := of_decide_eq_true h; omega
  · right
    have := of_decide_eq_true h
    exact ⟨by omega, by rw [bne, beq_iff_eq.2 (show (n : Int) = 101 by omega)]; rfl⟩
end Ve
end Go.Proofs.YtpafkniapacfdaaGreatDoor


namespace Go.Proofs.YtpafkniapacfdaaGreatDoor
open Go.RowKit
namespace Ve
theorem infoEnt : (Tryz.prog.info? 55).map (fun i => (i.zero, i.size, i.bytes)) = some (some (.agg #[.string ⟨#[]⟩, .string ⟨#[]⟩, .slice none 0 0, .slice none 0 0, .bool false]), 5, 88) := by kernel_rfl
def rowR (r : Raw) : List Value := [.string r.1.1, .string r.1.2, r.2.1, r.2.2.1, .bool r.2.2.2]
def flatR (L : List Raw) : List Value := L.flatMap rowR
theorem flatR_app (D E : List Raw) : flatR (D ++ E) = flatR D ++ flatR E := by simp [flatR]
theorem flatR_get : ∀ (D : List Raw) (j c : Nat) (hj : j < D.length) (_ : c < 5), (flatR D)[j * 5 + c]? = (rowR D[j])[c]?
  | [], _, _, hj, _ => absurd hj (Nat.not_lt_zero _)
  | r :: R, 0, c, _, hc => by
    have : flatR (r :: R) = rowR r ++ flatR R := rfl
    rw [this, List.getElem?_append_left (by show 0 * 5 + c < 5; omega)]
    simp
  | r :: R, j + 1, c, hj, hc => by
    have : flatR (r :: R) = rowR r ++ flatR R := rfl
    rw [this, List.getElem?_append_right (by show 5 ≤ (j + 1) * 5 + c; omega), show (j + 1) * 5 + c - (rowR r).length = j * 5 + c by show (j + 1) * 5 + c - 5 = _; omega]
    exact flatR_get R j c (by simpa using hj) hc
theorem own_es {w : World} {base : Nat} {e : TypeId} {v : Value} {L : List Raw} (hs : ∀ r, r ∈ L → slR r) (h : w.ownsRow base e 5 v L.length (flatR L)) : EsAt w v L := by
  obtain ⟨_, ⟨hv, hn0⟩ | ⟨g, cap, cur, hv, hg, hblk, hcap, hcm, hcs, hct⟩⟩ := h
  · exact ⟨none, 0, by rw [hv, hn0], by omega, hs, fun hL => absurd (List.length_eq_zero_iff.1 hn0) hL⟩
  · refine ⟨_, cap, hv, hcap, hs, fun _ => ⟨g, 0, rfl, fun j hj => ?_⟩⟩
    have go : ∀ c, c < 5 → w.cell? ⟨g, 0 + j * 5 + c, none⟩ = (rowR L[j])[c]? := fun c hc => by
      have h1 := flatR_get L j c hj hc
      rw [← hct, List.getElem?_take, if_pos (by omega)] at h1
      simp only [World.cell?, hblk]
      rw [← h1]; simp
    exact ⟨by have := go 0 (by omega); simpa [rowR] using this, by have := go 1 (by omega); simpa [rowR] using this, by have := go 2 (by omega); simpa [rowR] using this, by have := go 3 (by omega); simpa [rowR] using this, by have := go 4 (by omega); simpa [rowR] using this⟩
theorem own_nextR {W : World} {B : Nat} {e : TypeId} {v : Value} {L L' : List Raw} {x : Raw} (h : W.ownsRow B e 5 v (L.length + 1) (flatR L ++ rowR x)) (hl : L' = L ++ [x]) : W.ownsRow B e 5 v L'.length (flatR L') := by
  subst hl
  rw [List.length_append, flatR_app]
  have : flatR [x] = rowR x := by simp [flatR]
  rw [this]; exact h
theorem rel_app5 {B : Nat} {w wr w2 w3 : World} {e : TypeId} {v : Value} {n : Nat} {xs : List Value} {o : Obj} (hB : B ≤ wr.heap.size) (hb : Below B w wr) (hown : wr.ownsRow B e 5 v n xs) (hb2 : Below wr.heap.size wr w2)
    (hg : (w2.alloc o).grownBy w3 v.ownBlock) : Below B w w3 := by
  have h2 : Below B w w2 := hb.trans (hb2.mono hB)
  have h3 : Below B w (w2.alloc o) := h2.alloc (Nat.le_trans hB hb2.size) o
  exact h3.grown hg (by simp; exact Nat.le_succ_of_le (Nat.le_trans hB hb2.size)) (fun k hk => (hown.lt k hk).1)
theorem filter_snoc (P : Raw → Bool) {L : List Raw} {k : Nat} (hk : k < L.length) : (L.take (k + 1)).filter P = (L.take k).filter P ++ (if P L[k] then [L[k]] else []) := by
  rw [List.take_succ_eq_append_getElem hk, List.filter_append]
  simp [List.filter_cons]
theorem filter_yes {P : Raw → Bool} {L : List Raw} {k : Nat} (hk : k < L.length) (h : P L[k] = true) : (L.take (k + 1)).filter P = (L.take k).filter P ++ [L[k]] := by rw [filter_snoc P hk, h]; rfl
theorem filter_no {P : Raw → Bool} {L : List Raw} {k : Nat} (hk : k < L.length) (h : P L[k] = false) : (L.take (k + 1)).filter P = (L.take k).filter P := by rw [filter_snoc P hk, h]; simp
end Ve
end Go.Proofs.YtpafkniapacfdaaGreatDoor
