/-
  What slices.SortFunc with compare makes of a row of records.
-/
import Derived.Test.YtmgpapghdbopiaaGreatDoorOrdK
import Derived.Test.YtmgpapghdbopiaaGreatDoorShelfP
namespace Go.Proofs.YtmgpapghdbopiaaGreatDoor
open Go.RowKit
namespace Ve

/-- No record is greater than one behind it. -/
def srt (D : List Rc) : Prop := D.Pairwise fun r q => ordV r.1 q.1 ≤ 0

theorem sorted_below {w : World} {g : Nat} {α : Type} [Inhabited α] (enc : α → List Value) (m : Nat) (dk : Array α) (os : Array Obj) (B : Nat) (hB : B ≤ g) (hz : B ≤ w.heap.size) : Below B w (sortWorldK enc 4 w g 0 m dk os) := by
  refine ⟨rfl, rfl, rfl, size_sortWorldK_c enc 4 w g 0 m dk os, fun k hk => ?_⟩
  unfold sortWorldK
  rw [Go.Sort.heap_grow_old _ _ (by rw [Go.Sort.size_putRowK]; show k < w.heap.size; omega)]
  unfold Go.Sort.putRowK Go.Sort.putRow
  show (Array.modify (Go.Sort.ahead w m).heap g _)[k]? = _
  rw [Array.getElem?_modify, if_neg (by omega)]
  rfl

theorem holds_rw {w0 w : World} {g : Nat} {D : List Rc} (h : Rw w0 w g D) [Inhabited (Rq w g)] (d : Array (Rq w g)) (hd : d.toList.map (·.1) = D) : Go.Sort.HoldsK encR 4 w g 0 d := by
  have hl : d.size = D.length := by rw [← hd]; simp
  intro t ht
  rw [Go.Sort.size_flatK] at ht
  rw [Go.Sort.get_flatK _ _ _ _ ht]
  have hi : t / 4 < d.size := by omega
  have e : d[t / 4]!.1 = D[t / 4]'(by omega) := by
    rw [getElem!_pos d (t / 4) hi]
    simp [← hd]
  refine ⟨?_, by rw [Nat.zero_add]; exact h.fz t⟩
  show w.cell? ⟨g, 0 + t, none⟩ = some ((rcells d[t / 4]!.1)[t % 4]!)
  rw [e, Nat.zero_add]
  have hm : t % 4 < 4 := Nat.mod_lt _ (by omega)
  have hdm := Nat.div_add_mod t 4
  match hc : t % 4, hm with
  | 0, _ => have := h.c0 (t / 4) (by omega); rw [show t / 4 * 4 = t by omega] at this; exact this
  | 1, _ => have := h.c1 (t / 4) (by omega); rw [show t / 4 * 4 + 1 = t by omega] at this; exact this
  | 2, _ => have := h.c2 (t / 4) (by omega); rw [show t / 4 * 4 + 2 = t by omega] at this; exact this
  | 3, _ => have := h.c3 (t / 4) (by omega); rw [show t / 4 * 4 + 3 = t by omega] at this; exact this

theorem lift_rq {w : World} {g : Nat} : ∀ D : List Rc, (∀ r, r ∈ D → RcAt w g r) → ∃ l : List (Rq w g), l.map (·.1) = D
  | [], _ => ⟨[], rfl⟩
  | r :: R, h => by
    obtain ⟨l, e⟩ := lift_rq R (fun q hq => h q (List.mem_cons_of_mem _ hq))
    exact ⟨⟨r, h r (by simp)⟩ :: l, by simp [e]⟩
theorem sort_rw (w0 w : World) (g cap : Nat) (D : List Rc) (hD : D ≠ []) (h12 : D.length ≤ 1000) (h : Rw w0 w g D) :
    Calls Tryz.prog 53 #[.slice (some ⟨g, 0, none⟩) D.length cap, .func (.func 50) #[] #[]] w fun e w' => e = .returned (.tuple #[]) ∧ ∃ D', D'.Perm D ∧ srt D' ∧ Rw w0 w' g D' := by
  obtain ⟨r0, R, rfl⟩ : ∃ r R, D = r :: R := by
    cases D with
    | nil => exact absurd rfl hD
    | cons r R => exact ⟨r, R, rfl⟩
  letI : Inhabited (Rq w g) := ⟨⟨r0, h.rc r0 (by simp)⟩⟩
  obtain ⟨d, hd⟩ : ∃ d : Array (Rq w g), d.toList.map (·.1) = r0 :: R := by
    obtain ⟨l, e⟩ := lift_rq (r0 :: R) h.rc
    exact ⟨l.toArray, by simpa using e⟩
  have hl : d.size = (r0 :: R).length := by rw [← hd]; simp
  have hH := holds_rw h d hd
  have eg : ∀ args w, (callFunc 50 args).run Tryz.prog w = .ok (.enter 50 args) w := enters_of Tryz.func50 (by kernel_rfl) rfl
  have hcon := AnyQ.slices_SortFunc Tryz.sortParts 4 Tryz.isAgg30 Tryz.sizeOf30 encR encR_len (fun x v hv => by
    obtain ⟨px, nx, cx, e⟩ := x.2.2.2.1.slice
    simp only [encR, rcells, e, List.mem_cons, List.not_mem_nil, or_false] at hv
    rcases hv with rfl | rfl | rfl | rfl <;> rfl) cfR (swoR w g) 50 #[] g 0 cap d w eg (cmpR w g d.size) hH h.hi (by omega)
  rw [hl] at hcon
  refine Calls.mono hcon ?_
  rintro e w' ⟨he, d', n, os, hp, hs, rfl⟩
  obtain ⟨hsz, _, hperm⟩ := hp
  have hsz' : d'.size = (r0 :: R).length := hsz.trans hl
  have hHd := holdsK_sortWorldK_c encR 4 w g 0 d d' n os hH h.hi hsz
  have hpm : d'.toList.Perm d.toList := by
    have e1 : d'.extract 0 (r0 :: R).length = d' := by rw [← hsz']; simp
    have e2 : d.extract 0 (r0 :: R).length = d := by rw [← hl]; simp
    rw [e1, e2] at hperm
    exact hperm
  have hg : ∀ j (hj : j < (d'.toList.map (·.1)).length), d'[j]! = d'[j]'(by simpa using hj) := fun j hj => getElem!_pos d' j (by simpa using hj)
  have cell : ∀ j (hj : j < (d'.toList.map (·.1)).length) c (hc : c < 4), (sortWorldK encR 4 w g 0 n d' os).cell? ⟨g, j * 4 + c, none⟩ = some ((rcells (d'.toList.map (·.1))[j])[c]!) := by
    intro j hj c hc
    have h1 := (hHd.cell (i := j) (c := c) (by simpa using hj) hc).1
    rw [Nat.zero_add, hg j hj] at h1
    rw [h1]
    simp [encR]
  refine ⟨he, d'.toList.map (·.1), ?_, ?_, ?_⟩
  · rw [← hd]; exact hpm.map _
  · unfold srt
    rw [List.pairwise_iff_getElem]
    intro i j hi hj hij
    have h1 := hs i j (Nat.zero_le _) hij (by rw [← hsz']; simpa using hj)
    rw [hg i hi, hg j hj] at h1
    unfold ltOf cfR at h1
    simp only [decide_eq_false_iff_not] at h1
    simp only [List.getElem_map, Array.getElem_toList]
    have h3 : ¬ ordV (d'[j]'(by simpa using hj)).1.1 (d'[i]'(by simpa using hi)).1.1 < 0 := h1
    rw [ordV_swap (d'[i]'(by simpa using hi)).1.1 (d'[j]'(by simpa using hj)).1.1] at h3
    omega
  · refine ⟨h.bl.trans ((sorted_below encR n d' os w0.heap.size h.lo h.bl.size)), h.lo, Nat.lt_of_lt_of_le h.hi (size_sortWorldK_c encR 4 w g 0 n d' os), fun o => ?_, fun r hr => ?_, fun j hj => ?_, fun j hj => ?_, fun j hj => ?_, fun j hj => ?_⟩
    · unfold sortWorldK
      rw [Go.Sort.frozen?_grow _ _ _ (by rw [Go.Sort.size_putRowK]; exact h.hi)]
      unfold Go.Sort.putRowK
      rw [Go.Sort.frozen?_putRow]
      exact h.fz o
    · obtain ⟨x, _, rfl⟩ := List.mem_map.1 hr
      exact x.2.sorted encR n d' os
    · exact cell j hj 0 (by omega)
    · exact cell j hj 1 (by omega)
    · exact cell j hj 2 (by omega)
    · exact cell j hj 3 (by omega)
end Ve
end Go.Proofs.YtmgpapghdbopiaaGreatDoor
