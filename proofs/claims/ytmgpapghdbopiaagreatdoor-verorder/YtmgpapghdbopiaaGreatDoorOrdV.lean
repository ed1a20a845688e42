/-
  A row of records, one of them set, the last ones cleared.
-/
import Derived.Test.YtmgpapghdbopiaaGreatDoorOrdU
import Derived.Lib.SliceRun
namespace Go.Proofs.YtmgpapghdbopiaaGreatDoor
open Go.RowKit
namespace Ve

theorem RcAt.set {W : World} {g : Nat} {r : Rc} (h : RcAt W g r) (o : Nat) (vs : List Value) : RcAt (W.setCells g o vs) g r := by
  refine ⟨h.1, h.2.1, ?_, h.2.2.2⟩
  rcases h.2.2.1 with h0 | ⟨hne, b, e1, e2, e3⟩
  · exact Or.inl h0
  · have hbg : b ≠ g := h.2.2.2 b 0 none _ _ e1
    refine Or.inr ⟨hne, b, e1, by rw [Go.Sort.size_setCells]; exact e2, fun j hj => ?_⟩
    rw [World.cell?_setCells_out g vs o W _ (fun e => absurd e hbg)]
    exact e3 j hj
theorem setCells_below {w0 W : World} {g : Nat} (h : Below w0.heap.size w0 W) (hg : w0.heap.size ≤ g) : ∀ (vs : List Value) (o : Nat), Below w0.heap.size w0 (W.setCells g o vs) := by
  intro vs
  induction vs generalizing W with
  | nil => intro o; exact h
  | cons v r ih => intro o; exact ih (h.setCell hg v) (o + 1)
theorem Rw.cell {w0 W : World} {g : Nat} {D : List Rc} (h : Rw w0 W g D) (j : Nat) (hj : j < D.length) (c : Nat) (hc : c < 4) : W.cell? ⟨g, j * 4 + c, none⟩ = (rcells D[j])[c]? := by
  match c, hc with
  | 0, _ => exact h.c0 j hj
  | 1, _ => exact h.c1 j hj
  | 2, _ => exact h.c2 j hj
  | 3, _ => exact h.c3 j hj
theorem Rw.of_cells {w0 W : World} {g : Nat} {D : List Rc} (h1 : Below w0.heap.size w0 W) (h2 : w0.heap.size ≤ g) (h3 : g < W.heap.size) (h4 : ∀ o, W.frozen? ⟨g, o, none⟩ = false) (h5 : ∀ r, r ∈ D → RcAt W g r)
    (h : ∀ j (hj : j < D.length) c (_ : c < 4), W.cell? ⟨g, j * 4 + c, none⟩ = (rcells D[j])[c]?) : Rw w0 W g D :=
  ⟨h1, h2, h3, h4, h5, fun j hj => h j hj 0 (by omega), fun j hj => h j hj 1 (by omega), fun j hj => h j hj 2 (by omega), fun j hj => h j hj 3 (by omega)⟩
theorem Rw.setAt {w0 W : World} {g : Nat} {D : List Rc} (h : Rw w0 W g D) (i : Nat) (hi : i < D.length) (r : Rc) (hr : RcAt W g r) : Rw w0 (W.setCells g (i * 4) (rcells r)) g (D.set i r) := by
  refine Rw.of_cells (setCells_below h.bl h.lo _ _) h.lo (by rw [Go.Sort.size_setCells]; exact h.hi) (fun o => by rw [World.frozen?_setCells]; exact h.fz o) (fun q hq => ?_) (fun j hj c hc => ?_)
  · rcases List.mem_or_eq_of_mem_set hq with hq | hq
    · exact (h.rc q hq).set _ _
    · rw [hq]; exact hr.set _ _
  · have hj' : j < D.length := by simpa using hj
    by_cases e : j = i
    · subst e
      have := World.cell?_setCells_in g (rcells r) (j * 4) W (fun t ht => by
        have h9 : t < 4 := ht
        rw [h.cell j hj' t h9]
        match t, h9 with
        | 0, _ => rfl
        | 1, _ => rfl
        | 2, _ => rfl
        | 3, _ => rfl) c hc
      rw [this]
      simp
      exact (List.getElem?_eq_getElem (show c < (rcells r).length from hc)).symm
    · rw [World.cell?_setCells_out g (rcells r) (i * 4) W _ (fun _ _ => by
        show j * 4 + c < i * 4 ∨ i * 4 + 4 ≤ j * 4 + c
        omega), h.cell j hj' c hc]
      rw [List.getElem_set_ne (by omega)]
theorem Rw.cleared {w0 W : World} {g : Nat} {D : List Rc} (h : Rw w0 W g D) (n : Nat) (hn : n ≤ D.length) (zs : List Value) : Rw w0 (W.setCells g (n * 4) zs) g (D.take n) := by
  refine Rw.of_cells (setCells_below h.bl h.lo _ _) h.lo (by rw [Go.Sort.size_setCells]; exact h.hi) (fun o => by rw [World.frozen?_setCells]; exact h.fz o) (fun q hq => (h.rc q (List.mem_of_mem_take hq)).set _ _) (fun j hj c hc => ?_)
  have hj' : j < n := by simp at hj; omega
  rw [World.cell?_setCells_out g zs (n * 4) W _ (fun _ _ => Or.inl (by show j * 4 + c < n * 4; omega)), h.cell j (by omega) c hc, List.getElem_take]
theorem run_clear_rw {w0 W : World} {g : Nat} {D : List Rc} (h : Rw w0 W g D) (n : Nat) (hn : n < D.length) :
    ∃ zs, ∀ ty c, (Builtin.clear_ #[81] ty #[.slice (some ⟨g, n * 4, none⟩) (D.length - n) c]).run Tryz.prog W = .ok (.tuple #[]) (W.setCells g (n * 4) zs) := by
  have hzl : (Builtin.zeroCells (Value.agg #[.int .i64 0, .int .i64 0, .int .i64 0, .slice none 0 0]).cells (D.length - n)).toList.length = (D.length - n) * 4 := by
    simp [Builtin.zeroCells, Value.cells]
  refine ⟨(Builtin.zeroCells (Value.agg #[.int .i64 0, .int .i64 0, .int .i64 0, .slice none 0 0]).cells (D.length - n)).toList, fun ty c => ?_⟩
  have hst := run_storeCells_cells (P := Tryz.prog) g (n * 4) (Builtin.zeroCells (Value.agg #[.int .i64 0, .int .i64 0, .int .i64 0, .slice none 0 0]).cells (D.length - n)).toList 0 W (fun j hj => by
    rw [hzl] at hj
    have e : n * 4 + 0 + j = (n + j / 4) * 4 + j % 4 := by omega
    rw [e, h.cell (n + j / 4) (by omega) (j % 4) (by omega)]
    have h9 : j % 4 < 4 := by omega
    match j % 4, h9 with
    | 0, _ => rfl
    | 1, _ => rfl
    | 2, _ => rfl
    | 3, _ => rfl) (fun j _ => h.fz _) (fun v hv => by
    simp only [Builtin.zeroCells, Value.cells] at hv
    simp at hv
    obtain ⟨t, _, rfl⟩ := hv
    have h9 : t % 4 < 4 := by omega
    match t % 4, h9 with
    | 0, _ => rfl
    | 1, _ => rfl
    | 2, _ => rfl
    | 3, _ => rfl)
  simp only [Nat.add_zero] at hst
  obtain ⟨m, hm⟩ : ∃ m, D.length - n = m + 1 := ⟨D.length - n - 1, by omega⟩
  rw [hm] at hst ⊢
  have hu := Tryz.underlying81
  have hv : ∀ w, (zeroValue 30).run Tryz.prog w = .ok (.agg #[.int .i64 0, .int .i64 0, .int .i64 0, .slice none 0 0]) w := fun w => Tryz.zeroValue30 w
  simp [Builtin.clear_, run_underlying hu, hv, hst]
end Ve
end Go.Proofs.YtmgpapghdbopiaaGreatDoor
