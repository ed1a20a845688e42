/-
  What a list of laid sentinels gives a walk, however long the list: each variable's cell, each pointee's block, and that no two are one.
-/
import Derived.LaidLaws
import Derived.Below
namespace Go.Proofs.YtmgpapghdbopiaaGreatDoor
namespace Er
open Go

theorem sens_rest {P : Program} {nm : String} {W : World} {ti tp te ts : TypeId} {ms : Array (String × TypeId)} {f : Field}
    (hi : P.underlying ti = some (.interface ms)) (hrow : ∀ u, P.typeName? 3 u = some nm → u = tp)
    (hp : P.underlying tp = some (.pointer te)) (he : P.underlying te = some (.struct #[f])) (hft : f.type = ts) (hfo : f.offset = 0) (hs : P.underlying ts = some .string) (hc : P.cellsOf te = 1) (hcs : P.cellsOf ts = 1) (rest : List (String × DataW Unit)) :
    ∀ (ns : List (String × Nat × List UInt8)) (ps : List MemPlace),
      DataW.LaidVars P W ((ns.map fun x => (x.1, DataW.iface nm (.ptr (.agg [.lit (.string x.2.2)])))) ++ rest) ps →
      (∀ x, x ∈ ns → P.globalNamed x.1 = some x.2.1 ∧ (P.globals[x.2.1]?).map (·.type) = some ti) →
      (∀ b off, MemPlace.cell b off ∈ ps → (∃ c t, W.heap[b]? = some (.cells c t (0, 0))) ∧ ∀ u v, W.cell? ⟨b, off, none⟩ = some (.iface u v) → Value.okWide P W .any 0 u v) →
      ∃ al : List Addr, al.length = ns.length ∧ (al.map fun a => MemPlace.cell a.block a.off).Sublist ps ∧
        ∀ (i : Nat) (x : String × Nat × List UInt8) (a : Addr), ns[i]? = some x → al[i]? = some a →
          W.cell? ⟨x.2.1, 0, none⟩ = some (.iface tp (.pointer (some a))) ∧ ∃ c t, W.heap[a.block]? = some (.cells c t (0, 0)) := by
  intro ns
  induction ns with
  | nil =>
    intro ps _ _ _
    exact ⟨[], rfl, List.nil_sublist _, fun i x a h => by simp at h⟩
  | cons n r ih =>
    intro ps hl hg hr
    obtain ⟨g, t, cs, fuel, p, q, hg0, ht0, hv0, hd0, hq, e0⟩ := hl
    obtain ⟨k1, k2⟩ := hg n (List.mem_cons_self)
    obtain rfl := Option.some.inj (k1.symm.trans hg0)
    obtain rfl := Option.some.inj (k2.symm.trans ht0)
    subst e0
    obtain ⟨l0⟩ := cs
    have ok0 : ∀ u v, l0 = [.iface u v] → Value.okWide P W .any 0 u v := fun u v e => by
      subst e
      exact (hr n.2.1 0 (by simp [MemPlace.row])).2 u v (by simpa using World.var?_cell hg0 hv0 0)
    obtain ⟨a0, s0, rfl, hc0, hs0, hz0, rfl⟩ := errorString_of_trod hi hrow hp he hft hfo hs hc hcs hd0 ok0
    obtain ⟨al, hlen, hsub, hall⟩ := ih q hq (fun x hx => hg x (List.mem_cons_of_mem _ hx)) (fun b off hm => hr b off (by simp [hm]))
    refine ⟨a0 :: al, by simp [hlen], ?_, ?_⟩
    · simp only [List.map_cons, MemPlace.row, List.range_one, List.map_nil, Nat.add_zero]
      exact List.Sublist.cons _ (List.Sublist.cons_cons _ hsub)
    · intro i x a hx ha
      cases i with
      | zero =>
        simp only [List.getElem?_cons_zero, Option.some.injEq] at hx ha
        subst hx; subst ha
        exact ⟨by simpa using World.var?_cell hg0 hv0 0, (hr a0.block a0.off (by simp [MemPlace.row])).1⟩
      | succ i =>
        simp only [List.getElem?_cons_succ] at hx ha
        exact hall i x a hx ha

theorem unlike {al : List Addr} {ps : List MemPlace} (hs : (al.map fun a => MemPlace.cell a.block a.off).Sublist ps) (hn : ps.Nodup) {i j : Nat} (hi : i < al.length) (hj : j < al.length) (hij : i ≠ j) : al[i] ≠ al[j] := by
  have h1 : (al.map fun a => MemPlace.cell a.block a.off).Nodup := hs.nodup hn
  intro e
  rw [List.Nodup, List.pairwise_iff_getElem] at h1
  rcases Nat.lt_or_gt_of_ne hij with h | h
  · exact h1 i j (by simpa using hi) (by simpa using hj) h (by simp [e])
  · exact h1 j i (by simpa using hj) (by simpa using hi) h (by simp [e])
end Er
end Go.Proofs.YtmgpapghdbopiaaGreatDoor
