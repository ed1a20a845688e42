
import Derived.LaidLaws
import Derived.Below
import Derived.Test.YtjndahjfodnllaaGreatDoorRows
import Derived.Test.YtjndahjfodnllaaGreatDoorCode
import Derived.Test.YtjndahjfodnllaaGreatDoorTe
import Derived.LaidHandle
import Derived.Stop.LaidTwo
import Derived.Shelf.Vars
import Derived.Carry
import Derived.ProofKit
import Derived.LaidMore
import Derived.Stop.Joined
import Derived.Test.YtjndahjfodnllaaGreatDoorPw1
namespace Go.Proofs.YtjndahjfodnllaaGreatDoor
namespace Er
open Go
theorem sens_rest {P : Program} {nm : String} {W : World} {ti tp te ts : TypeId} {ms : Array (String × TypeId)} {f : Field}
    (hi : P.underlying ti = some (.interface ms)) (hrow : ∀ u, P.typeName? 3 u = some nm → u = tp)
    (hp : P.underlying tp = some (.pointer te)) (he : P.underlying te = some (.struct #[f])) (hft : f.type = ts) (hfo : f.offset = 0) (hs : P.underlying ts = some .string) (hc : P.cellsOf te = 1) (hcs : P.cellsOf ts = 1) (rest : List (String × DataW Unit)) :
    ∀ (ns : List (String × Nat × List UInt8)) (ps : List MemPlace),
      DataW.LaidVars P W ((ns.map fun x => (x.1, DataW.iface nm (.ptr (.agg [.lit (.string x.2.2)])))) ++ rest) ps →
      (∀ x, x ∈ ns → P.globalNamed x.1 = some x.2.1 ∧ (P.globals[x.2.1]?).map (·.type) = some ti) →
      (∀ b off, MemPlace.cell b off ∈ ps → (∃ c t, W.heap[b]? = some (.cells c t (0, 0))) ∧ ∀ u v, W.cell? ⟨b, off, none⟩ = some (.iface u v) → Value.okWide P W .any 0 u v) →
      ∃ al : List Addr, al.length = ns.length ∧ (al.map fun a => MemPlace.cell a.block a.off).Sublist ps ∧
        ∀ (i : Nat) (x : String × Nat × List UInt8) (a : Addr), ns[i]? = some x → al[i]? = some a →
          W.cell? ⟨x.2.1, 0, none⟩ = some (.iface tp (.pointer (some a))) ∧ ∃ c t, W.heap[a.block]? = some (.cells c t (0, 0)) := by
  intro ns
  induction ns with
  | nil =>
    intro ps _ _ _
    exact ⟨[], rfl, List.nil_sublist _, fun i x a h => by simp at h⟩
  | cons n r ih =>
    intro ps hl hg hr
    obtain ⟨g, t, cs, fuel, p, q, hg0, ht0, hv0, hd0, hq, e0⟩ := hl
    obtain ⟨k1, k2⟩ := hg n (List.mem_cons_self)
    obtain rfl := Option.some.inj (k1.symm.trans hg0)
    obtain rfl := Option.some.inj (k2.symm.trans ht0)
    subst e0
    obtain ⟨l0⟩ := cs
    have ok0 : ∀ u v, l0 = [.iface u v] → Value.okWide P W .any 0 u v := fun u v e => by
      subst e
      exact (hr n.2.1 0 (by simp [MemPlace.row])).2 u v (by simpa using World.var?_cell hg0 hv0 0)
    obtain ⟨a0, s0, rfl, hc0, hs0, hz0, rfl⟩ := errorString_of_trod hi hrow hp he hft hfo hs hc hcs hd0 ok0
    obtain ⟨al, hlen, hsub, hall⟩ := ih q hq (fun x hx => hg x (List.mem_cons_of_mem _ hx)) (fun b off hm => hr b off (by simp [hm]))
    refine ⟨a0 :: al, by simp [hlen], ?_, ?_⟩
    · simp only [List.map_cons, MemPlace.row, List.range_one, List.map_nil, Nat.add_zero]
      exact List.Sublist.cons _ (List.Sublist.cons_cons _ hsub)
    · intro i x a hx ha
      cases i with
      | zero =>
        simp only [List.getElem?_cons_zero, Option.some.injEq] at hx ha
        subst hx; subst ha
        exact ⟨by simpa using World.var?_cell hg0 hv0 0, (hr a0.block a0.off (by simp [MemPlace.row])).1⟩
      | succ i =>
        simp only [List.getElem?_cons_succ] at hx ha
        exact hall i x a hx ha
theorem unlike {al : List Addr} {ps : List MemPlace} (hs : (al.map fun a => MemPlace.cell a.block a.off).Sublist ps) (hn : ps.Nodup) {i j : Nat} (hi : i < al.length) (hj : j < al.length) (hij : i ≠ j) : al[i] ≠ al[j] := by
  have h1 : (al.map fun a => MemPlace.cell a.block a.off).Nodup := hs.nodup hn
  intro e
  rw [List.Nodup, List.pairwise_iff_getElem] at h1
  rcases Nat.lt_or_gt_of_ne hij with h | h
  · exact h1 i j (by simpa using hi) (by simpa using hj) h (by simp [e])
  · exact h1 j i (by simpa using hj) (by simpa using hi) h (by simp [e])
end Er
end Go.Proofs.YtjndahjfodnllaaGreatDoor


namespace Go.Proofs.YtjndahjfodnllaaGreatDoor
open Go.ChangeShapes Go.WideShapes Go.ChangeAt Go.RowKit
namespace Ve
theorem etName : Tryz.prog.globalNamed "errors.errorType" = some 10 := by kernel_rfl
def rtWord : String := match (Rows.laid_errors_errorType : DataW Unit) with | .iface s _ => s | _ => ""
theorem rtName : (Tryz.prog.cutTypes.find? (·.1 == rtWord)).map (·.2) = some 215 := by kernel_rfl
theorem oneRow : ((List.range 321).filter fun t => Tryz.prog.rowNamed t [101, 114, 114, 111, 114]) = [29] := by kernel_rfl
theorem nTypes : Tryz.prog.types.size = 321 := by kernel_rfl
theorem cellsS : Tryz.prog.cellsOf 310 = 1 := by kernel_rfl
theorem cellsStr : Tryz.prog.cellsOf 9 = 1 := by kernel_rfl
theorem star : "*" ++ "errors.errorString" = "*errors.errorString" := by decide
theorem rowS (u : TypeId) (h : Tryz.prog.typeName? 3 u = some "*errors.errorString") : u = 292 :=
  typeName_ptr_named (nm := "errors.errorString") (by rw [star]; kernel_rfl) (by kernel_rfl) (by decide) u (by rw [star]; exact h)
def tens : List (String × Nat × List UInt8) :=
  [("pewholder/api.ErrText", 2, [112, 101, 119, 104, 111, 108, 100, 101, 114, 58, 32, 116, 101, 120, 116]),
   ("pewholder/api.ErrBound", 3, [112, 101, 119, 104, 111, 108, 100, 101, 114, 58, 32, 98, 111, 117, 110, 100]),
   ("pewholder/api.ErrShape", 5, [112, 101, 119, 104, 111, 108, 100, 101, 114, 58, 32, 115, 104, 97, 112, 101]),
   ("pewholder/api.ErrMajor", 4, [112, 101, 119, 104, 111, 108, 100, 101, 114, 58, 32, 109, 97, 106, 111, 114]),
   ("pewholder/api.ErrNone", 0, [112, 101, 119, 104, 111, 108, 100, 101, 114, 58, 32, 110, 111, 110, 101]),
   ("pewholder/api.ErrFull", 1, [112, 101, 119, 104, 111, 108, 100, 101, 114, 58, 32, 102, 117, 108, 108]),
   ("pewholder/api.ErrOrder", 7, [112, 101, 119, 104, 111, 108, 100, 101, 114, 58, 32, 111, 114, 100, 101, 114])]
theorem tens_named : ∀ x, x ∈ tens → Tryz.prog.globalNamed x.1 = some x.2.1 ∧ (Tryz.prog.globals[x.2.1]?).map (·.type) = some 29 := by
  have h : (tens.all fun x => Tryz.prog.globalNamed x.1 == some x.2.1 && (Tryz.prog.globals[x.2.1]?).map (·.type) == some 29) = true := by kernel_rfl
  intro x hx
  simpa using List.all_eq_true.1 h x hx
theorem ml_of {W : World} (hsh : W.ShapedOpen Tryz.prog) : ∃ m, W.cell? ⟨11, 0, none⟩ = some (.int .i64 m) :=
  cell_of_shapedOpen_int (P := Tryz.prog) (g := 11) (t := 3) (zero := #[.int .i64 0]) hsh (of_decide_eq_true (by kernel_rfl)) (by kernel_rfl) rfl (by kernel_rfl) (by kernel_rfl) Tryz.underlying3
end Ve
end Go.Proofs.YtjndahjfodnllaaGreatDoor


namespace Go.Proofs.YtjndahjfodnllaaGreatDoor
open Go.ChangeShapes Go.WideShapes Go.ChangeAt Go.RowKit
namespace Ve
theorem te_ds {W : World} {m : Int} (rest : List (String × DataW Unit)) (hl : laidMet Tryz.prog ((tens.map fun x => (x.1, DataW.iface "*errors.errorString" (.ptr (.agg [.lit (.string x.2.2)])))) ++ rest) W)
    (hh : handlesMet Tryz.prog [("errors.errorType", Rows.laid_errors_errorType)] W) (hm0 : W.cell? ⟨11, 0, none⟩ = some (.int .i64 m)) : ∃ A, Te W A m ∧ Ds W A := by
  obtain ⟨ps, hl, hnd, hrows⟩ := hl
  obtain ⟨name, u, ty, e1, e2, e3, e4, e5⟩ := hh _ (List.mem_singleton.2 rfl)
  have en : name = [101, 114, 114, 111, 114] := (Option.some.inj e1).symm
  subst en
  obtain rfl := Option.some.inj (rtName.symm.trans e2)
  have hm : ty ∈ (List.range 321).filter fun t => Tryz.prog.rowNamed t [101, 114, 114, 111, 114] := List.mem_filter.2 ⟨List.mem_range.2 (by rw [← nTypes]; exact e3), e4⟩
  rw [oneRow] at hm
  obtain rfl := List.mem_singleton.1 hm
  have hhd : typeHandle Tryz.prog 29 = .pointer (some ⟨17, 29, none⟩) := by kernel_rfl
  rw [hhd] at e5
  have het : W.cell? ⟨10, 0, none⟩ = some (.iface 215 (.agg #[.pointer (some ⟨17, 29, none⟩)])) := by simpa using World.var?_cell etName e5 0
  obtain ⟨al, hlen, hsub, hall⟩ := Er.sens_rest Tryz.underlying29 rowS Tryz.underlying292 Tryz.underlying310 rfl rfl Tryz.underlying9 cellsS cellsStr rest tens ps hl tens_named hrows
  have hten : al.length = 7 := hlen
  refine ⟨fun k => al.getD (if k < 5 then k else k - 1) ⟨0, 0, none⟩, ?_⟩
  have get : ∀ k, k < 7 → al[k]? = some (al.getD k ⟨0, 0, none⟩) := fun k hk => by
    rw [List.getD_eq_getElem?_getD, List.getElem?_eq_getElem (by omega)]; rfl
  have c := fun k x (hx : tens[k]? = some x) (hk : k < 7) => hall k x _ hx (get k hk)
  have ne : ∀ i j, i < 7 → j < 7 → i ≠ j → al.getD i ⟨0, 0, none⟩ ≠ al.getD j ⟨0, 0, none⟩ := fun i j hi hj hij e => by
    have := Er.unlike hsub hnd (i := i) (j := j) (by omega) (by omega) hij
    apply this
    have hi' := get i hi
    have hj' := get j hj
    rw [List.getElem?_eq_getElem (by omega)] at hi' hj'
    rw [Option.some.inj hi', Option.some.inj hj']
    exact e
  exact ⟨⟨⟨(c 0 _ rfl (by omega)).1, (c 1 _ rfl (by omega)).1, (c 2 _ rfl (by omega)).1, (c 3 _ rfl (by omega)).1, (c 4 _ rfl (by omega)).1, (c 5 _ rfl (by omega)).1, (c 6 _ rfl (by omega)).1, het⟩, ⟨(c 0 _ rfl (by omega)).1, (c 1 _ rfl (by omega)).1, (c 0 _ rfl (by omega)).2, (c 1 _ rfl (by omega)).2, ne 0 1 (by omega) (by omega) (by omega), hm0⟩⟩,
    ⟨(c 0 _ rfl (by omega)).2, (c 1 _ rfl (by omega)).2, (c 3 _ rfl (by omega)).2, ne 0 3 (by omega) (by omega) (by omega), ne 1 3 (by omega) (by omega) (by omega)⟩⟩
end Ve
end Go.Proofs.YtjndahjfodnllaaGreatDoor
