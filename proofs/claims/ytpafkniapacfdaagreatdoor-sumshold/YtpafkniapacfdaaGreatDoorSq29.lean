
import Derived.Test.YtpafkniapacfdaaGreatDoorSq26
import Derived.Test.YtpafkniapacfdaaGreatDoorSq27
import Derived.Test.YtpafkniapacfdaaGreatDoorSq28
import Derived.Test.YtpafkniapacfdaaGreatDoorSq16
import Derived.Lib.SliceRun
import Derived.Shelf.SlSortCmp.WholeK
import Derived.Test.YtpafkniapacfdaaGreatDoorSq6
import Derived.Test.YtpafkniapacfdaaGreatDoorSq21
import Derived.Test.YtpafkniapacfdaaGreatDoorSq22
import Derived.Test.YtpafkniapacfdaaGreatDoorSq10
import Derived.Test.YtpafkniapacfdaaGreatDoorSq20
import Derived.Deep.RegionHeld
namespace Go.Proofs.YtpafkniapacfdaaGreatDoor
open Go.RowKit Go.Maps
namespace Ve
end Ve
end Go.Proofs.YtpafkniapacfdaaGreatDoor


namespace Go.Proofs.YtpafkniapacfdaaGreatDoor
open Go.RowKit
namespace Ve
structure Mw (w0 W : World) (g : Nat) (D : List Bm) : Prop where
  bl : Below w0.heap.size w0 W
  lo : w0.heap.size ≤ g
  hi : g < W.heap.size
  fz : ∀ o, W.frozen? ⟨g, o, none⟩ = false
  c0 : ∀ j (h : j < D.length), W.cell? ⟨g, j * 2, none⟩ = some (.string D[j].1)
  c1 : ∀ j (h : j < D.length), W.cell? ⟨g, j * 2 + 1, none⟩ = some (.string D[j].2)
def mcells (m : Bm) : List Value := [.string m.1, .string m.2]
theorem Mw.below {w0 W W' : World} {g : Nat} {D : List Bm} (h : Mw w0 W g D) (hb : Below W.heap.size W W') : Mw w0 W' g D :=
  ⟨h.bl.trans (hb.mono h.bl.size), h.lo, Nat.lt_of_lt_of_le h.hi hb.size, fun o => by rw [hb.frozen h.hi]; exact h.fz o, fun j hj => cell_below hb (h.c0 j hj), fun j hj => cell_below hb (h.c1 j hj)⟩
theorem Mw.at {w0 W : World} {g : Nat} {D : List Bm} (h : Mw w0 W g D) {j : Nat} {r : Bm} (hj : D[j]? = some r) :
    W.cell? ⟨g, j * 2, none⟩ = some (.string r.1) ∧ W.cell? ⟨g, j * 2 + 1, none⟩ = some (.string r.2) := by
  obtain ⟨hl, rfl⟩ := List.getElem?_eq_some_iff.1 hj
  exact ⟨h.c0 j hl, h.c1 j hl⟩
theorem Mw.cell {w0 W : World} {g : Nat} {D : List Bm} (h : Mw w0 W g D) (j : Nat) (hj : j < D.length) (c : Nat) (hc : c < 2) : W.cell? ⟨g, j * 2 + c, none⟩ = (mcells D[j])[c]? := by
  match c, hc with
  | 0, _ => exact h.c0 j hj
  | 1, _ => exact h.c1 j hj
theorem Mw.of_cells {w0 W : World} {g : Nat} {D : List Bm} (h1 : Below w0.heap.size w0 W) (h2 : w0.heap.size ≤ g) (h3 : g < W.heap.size) (h4 : ∀ o, W.frozen? ⟨g, o, none⟩ = false)
    (h : ∀ j (hj : j < D.length) c (_ : c < 2), W.cell? ⟨g, j * 2 + c, none⟩ = (mcells D[j])[c]?) : Mw w0 W g D :=
  ⟨h1, h2, h3, h4, fun j hj => h j hj 0 (by omega), fun j hj => h j hj 1 (by omega)⟩
theorem Mw.ms {w0 W : World} {g : Nat} {D : List Bm} (h : Mw w0 W g D) {cap : Nat} (hc : D.length ≤ cap) : MsAt W (.slice (some ⟨g, 0, none⟩) D.length cap) D :=
  ⟨_, cap, rfl, hc, fun _ => ⟨g, 0, rfl, fun j hj => ⟨by rw [Nat.zero_add]; exact h.c0 j hj, by rw [Nat.zero_add]; exact h.c1 j hj⟩⟩⟩
theorem setCells_belowM {w0 W : World} {g : Nat} (h : Below w0.heap.size w0 W) (hg : w0.heap.size ≤ g) : ∀ (vs : List Value) (o : Nat), Below w0.heap.size w0 (W.setCells g o vs) := by
  intro vs
  induction vs generalizing W with
  | nil => intro o; exact h
  | cons v r ih => intro o; exact ih (h.setCell hg v) (o + 1)
theorem Mw.setAt {w0 W : World} {g : Nat} {D : List Bm} (h : Mw w0 W g D) (i : Nat) (hi : i < D.length) (r : Bm) : Mw w0 (W.setCells g (i * 2) (mcells r)) g (D.set i r) := by
  refine Mw.of_cells (setCells_belowM h.bl h.lo _ _) h.lo (by rw [Go.Sort.size_setCells]; exact h.hi) (fun o => by rw [World.frozen?_setCells]; exact h.fz o) (fun j hj c hc => ?_)
  have hj' : j < D.length := by simpa using hj
  by_cases e : j = i
  · subst e
    have := World.cell?_setCells_in g (mcells r) (j * 2) W (fun t ht => by
      have h9 : t < 2 := ht
      rw [h.cell j hj' t h9]
      match t, h9 with
      | 0, _ => rfl
      | 1, _ => rfl) c hc
    rw [this]
    simp
    exact (List.getElem?_eq_getElem (show c < (mcells r).length from hc)).symm
  · rw [World.cell?_setCells_out g (mcells r) (i * 2) W _ (fun _ _ => by
      show j * 2 + c < i * 2 ∨ i * 2 + 2 ≤ j * 2 + c
      omega), h.cell j hj' c hc]
    rw [List.getElem_set_ne (by omega)]
theorem Mw.cleared {w0 W : World} {g : Nat} {D : List Bm} (h : Mw w0 W g D) (n : Nat) (hn : n ≤ D.length) (zs : List Value) : Mw w0 (W.setCells g (n * 2) zs) g (D.take n) := by
  refine Mw.of_cells (setCells_belowM h.bl h.lo _ _) h.lo (by rw [Go.Sort.size_setCells]; exact h.hi) (fun o => by rw [World.frozen?_setCells]; exact h.fz o) (fun j hj c hc => ?_)
  have hj' : j < n := by simp at hj; omega
  rw [World.cell?_setCells_out g zs (n * 2) W _ (fun _ _ => Or.inl (by show j * 2 + c < n * 2; omega)), h.cell j (by omega) c hc, List.getElem_take]
theorem run_clear_mw {w0 W : World} {g : Nat} {D : List Bm} (h : Mw w0 W g D) (n : Nat) (hn : n < D.length) :
    ∃ zs, ∀ ty c, (Builtin.clear_ #[23] ty #[.slice (some ⟨g, n * 2, none⟩) (D.length - n) c]).run Tryz.prog W = .ok (.tuple #[]) (W.setCells g (n * 2) zs) := by
  have hzl : (Builtin.zeroCells (Value.agg #[.string ⟨#[]⟩, .string ⟨#[]⟩]).cells (D.length - n)).toList.length = (D.length - n) * 2 := by
    simp [Builtin.zeroCells, Value.cells]
  refine ⟨(Builtin.zeroCells (Value.agg #[.string ⟨#[]⟩, .string ⟨#[]⟩]).cells (D.length - n)).toList, fun ty c => ?_⟩
  have hst := run_storeCells_cells (P := Tryz.prog) g (n * 2) (Builtin.zeroCells (Value.agg #[.string ⟨#[]⟩, .string ⟨#[]⟩]).cells (D.length - n)).toList 0 W (fun j hj => by
    rw [hzl] at hj
    have e : n * 2 + 0 + j = (n + j / 2) * 2 + j % 2 := by omega
    rw [e, h.cell (n + j / 2) (by omega) (j % 2) (by omega)]
    have h9 : j % 2 < 2 := by omega
    match j % 2, h9 with
    | 0, _ => rfl
    | 1, _ => rfl) (fun j _ => h.fz _) (fun v hv => by
    simp only [Builtin.zeroCells, Value.cells] at hv
    simp at hv
    obtain ⟨t, _, rfl⟩ := hv
    have h9 : t % 2 < 2 := by omega
    match t % 2, h9 with
    | 0, _ => rfl
    | 1, _ => rfl)
  simp only [Nat.add_zero] at hst
  obtain ⟨m, hm⟩ : ∃ m, D.length - n = m + 1 := ⟨D.length - n - 1, by omega⟩
  rw [hm] at hst ⊢
  have hu := Tryz.underlying23
  have hv : ∀ w, (zeroValue 42).run Tryz.prog w = .ok (.agg #[.string ⟨#[]⟩, .string ⟨#[]⟩]) w := fun w => Tryz.zeroValue42 w
  simp [Builtin.clear_, run_underlying hu, hv, hst]
theorem own_mw {w0 W : World} {v : Value} {L : List Bm} (h : W.ownsRow w0.heap.size 42 2 v L.length (flatM L)) (hb : Below w0.heap.size w0 W) (hL : L ≠ []) : ∃ g cap, v = .slice (some ⟨g, 0, none⟩) L.length cap ∧ L.length ≤ cap ∧ cap ≤ maxLen ∧ Mw w0 W g L := by
  obtain ⟨_, ⟨_, hn0⟩ | ⟨g, cap, cur, hv, hg, hblk, hcap, hcm, hcs, hct⟩⟩ := h
  · exact absurd (List.length_eq_zero_iff.1 hn0) hL
  · refine ⟨g, cap, hv, hcap, hcm, Mw.of_cells hb hg (lt_of_blk hblk) (fun o => by simp [World.frozen?, hblk]) (fun j hj c hc => ?_)⟩
    have h1 := flatM_get L j c hj hc
    rw [← hct, List.getElem?_take, if_pos (by omega)] at h1
    simp only [World.cell?, hblk]
    unfold mcells
    rw [← h1]; simp
def srtM (D : List Bm) : Prop := D.Pairwise nfW
structure CpM (D : List Bm) (m : Nat) (E : List Bm) : Prop where
  ri : rising E
  sub : ∀ e, e ∈ E → e ∈ D.take m
  top : ∀ x, x ∈ D.take m → ∃ e, e ∈ E ∧ e.1 = x.1 ∧ ordV (vb x) (vb e) ≤ 0
  len : E.length ≤ m
theorem mem_take_at {D : List Bm} {m : Nat} {x : Bm} (h : x ∈ D.take m) : ∃ i, ∃ hi : i < D.length, i < m ∧ D[i] = x := by
  obtain ⟨i, hi, e⟩ := List.mem_iff_getElem.1 h
  rw [List.getElem_take] at e
  simp at hi
  exact ⟨i, by omega, by omega, e⟩
theorem take_snocM {D : List Bm} {m : Nat} (hm : m < D.length) {x : Bm} : x ∈ D.take (m + 1) ↔ x ∈ D.take m ∨ x = D[m] := by
  rw [List.take_succ_eq_append_getElem hm, List.mem_append, List.mem_singleton]
theorem CpM.start {D : List Bm} (hD : 0 < D.length) (hr : ∀ r, r ∈ D → Rt r) : CpM D 1 (D.take 1) := by
  match D, hD with
  | r :: R, _ => exact ⟨List.pairwise_singleton _ _, fun t h => h, fun x hx => ⟨x, hx, rfl, by
      have : x = r := by simpa using hx
      subst this
      rw [(ordV_zero (hr x (by simp)).ver (hr x (by simp)).ver).2 rfl]; omega⟩, by simp⟩
theorem CpM.same {D E : List Bm} {m : Nat} (h : CpM D (m + 1) E) (hs : srtM D) (_hr : ∀ r, r ∈ D → Rt r) (hm : m + 1 < D.length) (he : D[m + 1].1 = (D[m]'(by omega)).1) : CpM D (m + 1 + 1) E := by
  have hp := List.pairwise_iff_getElem.1 hs
  refine ⟨h.ri, fun e he => (take_snocM hm).2 (Or.inl (h.sub e he)), fun x hx => ?_, by have := h.len; omega⟩
  rcases (take_snocM hm).1 hx with hx | rfl
  · exact h.top x hx
  · obtain ⟨e, h1, h2, _⟩ := h.top (D[m]'(by omega)) ((take_snocM (by omega)).2 (Or.inr rfl))
    obtain ⟨i, hi, him, rfl⟩ := mem_take_at (h.sub e h1)
    refine ⟨D[i], h1, h2.trans he.symm, ?_⟩
    rcases hp i (m + 1) hi hm him with h3 | ⟨_, h3⟩
    · rw [h2, ← he, lt_irrefl] at h3; cases h3
    · exact h3
theorem srt_strictM {D : List Bm} (hs : srtM D) {i k : Nat} (hik : i ≤ k) (hk : k + 1 < D.length) (hne : D[k + 1].1 ≠ (D[k]'(by omega)).1) : lt (D[i]'(by omega)).1 D[k + 1].1 = true := by
  have hp := List.pairwise_iff_getElem.1 hs
  have h2 : lt (D[k]'(by omega)).1 D[k + 1].1 = true := by
    rcases hp k (k + 1) (by omega) hk (by omega) with h | ⟨e, _⟩
    · exact h
    · exact absurd e.symm hne
  rcases Nat.lt_or_ge i k with h | h
  · rcases hp i k (by omega) (by omega) h with h1 | ⟨e, _⟩
    · exact lt_trans h1 h2
    · rw [e]; exact h2
  · have : i = k := by omega
    subst this; exact h2
theorem CpM.more {D E : List Bm} {m : Nat} (h : CpM D (m + 1) E) (hs : srtM D) (hr : ∀ r, r ∈ D → Rt r) (hm : m + 1 < D.length) (he : D[m + 1].1 ≠ (D[m]'(by omega)).1) : CpM D (m + 1 + 1) (E ++ [D[m + 1]]) := by
  refine ⟨?_, fun e h1 => ?_, fun x hx => ?_, by have := h.len; simp; omega⟩
  · unfold rising
    rw [List.pairwise_append]
    refine ⟨h.ri, List.pairwise_singleton _ _, fun a ha b hb => ?_⟩
    rw [List.mem_singleton.1 hb]
    obtain ⟨i, hi, him, rfl⟩ := mem_take_at (h.sub a ha)
    exact srt_strictM hs (by omega) hm he
  · rcases List.mem_append.1 h1 with h1 | h1
    · exact (take_snocM hm).2 (Or.inl (h.sub e h1))
    · exact (take_snocM hm).2 (Or.inr (List.mem_singleton.1 h1))
  · rcases (take_snocM hm).1 hx with hx | rfl
    · obtain ⟨e, h1, h2⟩ := h.top x hx
      exact ⟨e, List.mem_append_left _ h1, h2⟩
    · have hv := (hr D[m + 1] (List.getElem_mem hm)).ver
      exact ⟨D[m + 1], by simp, rfl, by rw [(ordV_zero hv hv).2 rfl]; omega⟩
theorem CpM.plain {D : List Bm} {m : Nat} (h : CpM D (m + 1) (D.take (m + 1))) (hs : srtM D) (hr : ∀ r, r ∈ D → Rt r) (hm : m + 1 < D.length) (he : D[m + 1].1 ≠ (D[m]'(by omega)).1) : CpM D (m + 1 + 1) (D.take (m + 1 + 1)) := by
  have := h.more hs hr hm he
  rw [List.take_succ_eq_append_getElem hm]
  exact this
theorem CpM.jn {D E : List Bm} (h : CpM D D.length E) (hr : ∀ r, r ∈ D → Rt r) : Jn D E := by
  have hs : ∀ e, e ∈ E → e ∈ D := fun e he => by have := h.sub e he; rw [List.take_length] at this; exact this
  exact ⟨h.ri, fun e he => ⟨hs e he, (hr e (hs e he)).ok⟩, fun x hx _ => h.top x (by rw [List.take_length]; exact hx)⟩
end Ve
end Go.Proofs.YtpafkniapacfdaaGreatDoor


namespace Go.Proofs.YtpafkniapacfdaaGreatDoor
open Go.RowKit Go.Maps
namespace Ve
def qa0 : Bm := (⟨#[97]⟩, ⟨#[118, 49, 46, 48, 46, 48]⟩)
def qa1 : Bm := (⟨#[97]⟩, ⟨#[118, 49, 46, 49, 46, 48]⟩)
def qb0 : Bm := (⟨#[98]⟩, ⟨#[118, 48, 46, 49, 46, 48]⟩)
def qb1 : Bm := (⟨#[98]⟩, ⟨#[118, 48, 46, 50, 46, 48, 45, 114, 99]⟩)
def s3L : List Ent := [(qa0, [], [⟨#[46]⟩, ⟨#[120]⟩], false), (qa1, [qb0], [⟨#[46]⟩], false), (qb0, [], [], false), (qb1, [], [], false)]
def s3Q (g : Nat) : List Raw := [(qa0, .slice none 0 0, .slice (some ⟨g, 0, none⟩) 2 2, false), (qa1, .slice (some ⟨g + 1, 0, none⟩) 1 1, .slice (some ⟨g + 2, 0, none⟩) 1 1, false), (qb0, .slice none 0 0, .slice none 0 0, false), (qb1, .slice none 0 0, .slice none 0 0, false)]
theorem s3_e0 : entE s3L 0 = 0 := by
  show entW none _ = 0
  rw [entW_none (by kernel_rfl), entR_pack (by decide) (by kernel_rfl)]
  exact pk_rise (by decide) (by kernel_rfl) (fun j hj => by
    have : j = 0 := by simp [bl] at hj; omega
    subst this; exact of_decide_eq_true (by kernel_rfl))
theorem s3_e1 : entE s3L 1 = 0 := by
  show entW (some _) _ = 0
  rw [entW_some (by kernel_rfl) (by kernel_rfl), entR_pack (by decide) (by kernel_rfl)]
  exact pk_rise (by decide) (by kernel_rfl) (fun j hj => by simp [bl] at hj)
theorem s3_e2 : entE s3L 2 = 0 := by
  show entW (some _) _ = 0
  rw [entW_some (by kernel_rfl) (by kernel_rfl), entR_pack (by decide) (by kernel_rfl)]
  exact pk_rise (by decide) (by kernel_rfl) (fun j hj => by simp [bl] at hj)
theorem s3_e3 : entE s3L 3 = 0 := by
  show entW (some _) _ = 0
  rw [entW_some (by kernel_rfl) (by kernel_rfl), entR_pack (by decide) (by kernel_rfl)]
  exact pk_rise (by decide) (by kernel_rfl) (fun j hj => by simp [bl] at hj)
theorem s3_chk (g : Nat) : chk (s3Q g) s3L = (0, none) := by
  have h2 : ∀ j, j < 4 → entE s3L j = 0 := fun j hj => by
    rcases (by omega : j = 0 ∨ j = 1 ∨ j = 2 ∨ j = 3) with rfl | rfl | rfl | rfl
    · exact s3_e0
    · exact s3_e1
    · exact s3_e2
    · exact s3_e3
  have h : fstE (entE s3L) s3L.length = none := fstE_none h2
  rw [chk_reqs (by decide) h]
  exact Prod.ext (show codeE (reqE2 (s3Q g) s3L) s3L.length = 0 by kernel_rfl) (show fstE (reqE2 (s3Q g) s3L) s3L.length = none by kernel_rfl)
theorem s3_sh : ∀ e, e ∈ s3L → ShE e := fun e he => by
  have : e = s3L[0] ∨ e = s3L[1] ∨ e = s3L[2] ∨ e = s3L[3] := by simpa [s3L] using he
  rcases this with rfl | rfl | rfl | rfl
  · exact ⟨by decide, by decide, by decide, fun m hm => (by cases hm), by decide, fun x hx => (by
      have : x = ⟨#[46]⟩ ∨ x = ⟨#[120]⟩ := by simpa [s3L] using hx
      rcases this with rfl | rfl <;> decide)⟩
  · exact ⟨by decide, by decide, by decide, fun m hm => (by have : m = qb0 := List.mem_singleton.1 hm
                                                            subst this; exact ⟨by decide, by decide⟩), by decide, fun x hx => (by have : x = ⟨#[46]⟩ := List.mem_singleton.1 hx
                                                                                                                                  subst this; decide)⟩
  · exact ⟨by decide, by decide, by decide, fun m hm => (by cases hm), by decide, fun x hx => (by cases hx)⟩
  · exact ⟨by decide, by decide, by decide, fun m hm => (by cases hm), by decide, fun x hx => (by cases hx)⟩
theorem s3_ixs {W : World} {g q : Nat} (hb : W.heap[q]? = some (.cells #[.string ⟨#[97]⟩, .string ⟨#[118, 49, 46, 48, 46, 48]⟩, .slice none 0 0, .slice (some ⟨g, 0, none⟩) 2 2, .bool false, .string ⟨#[97]⟩, .string ⟨#[118, 49, 46, 49, 46, 48]⟩, .slice (some ⟨g + 1, 0, none⟩) 1 1, .slice (some ⟨g + 2, 0, none⟩) 1 1, .bool false, .string ⟨#[98]⟩, .string ⟨#[118, 48, 46, 49, 46, 48]⟩, .slice none 0 0, .slice none 0 0, .bool false, .string ⟨#[98]⟩, .string ⟨#[118, 48, 46, 50, 46, 48, 45, 114, 99]⟩, .slice none 0 0, .slice none 0 0, .bool false] 55 (0, 0)))
    (hp : W.heap[g]? = some (.cells #[.string ⟨#[46]⟩, .string ⟨#[120]⟩] 9 (0, 0))) (hg : W.heap[g + 1]? = some (.cells #[.string ⟨#[98]⟩, .string ⟨#[118, 48, 46, 49, 46, 48]⟩] 42 (0, 0))) (hd : W.heap[g + 2]? = some (.cells #[.string ⟨#[46]⟩] 9 (0, 0))) :
    Ixs W (.slice (some ⟨q, 0, none⟩) 4 4) (s3Q g) s3L := by
  have msn : MsAt W (.slice none 0 0) [] := ⟨none, 0, rfl, Nat.le_refl _, fun h => absurd rfl h⟩
  have txn : TxAt W (.slice none 0 0) [] := ⟨none, 0, rfl, Nat.le_refl _, fun h => absurd rfl h⟩
  have msb : MsAt W (.slice (some ⟨g + 1, 0, none⟩) 1 1) [qb0] := ⟨some ⟨g + 1, 0, none⟩, 1, rfl, Nat.le_refl _, fun _ => ⟨g + 1, 0, rfl, fun j hj => by
    have : j = 0 := by simp at hj; exact hj
    subst this
    refine ⟨?_, ?_⟩ <;> (rw [Lib.cell_of_heap hg]; rfl)⟩⟩
  have tx1 : TxAt W (.slice (some ⟨g, 0, none⟩) 2 2) [⟨#[46]⟩, ⟨#[120]⟩] := ⟨some ⟨g, 0, none⟩, 2, rfl, Nat.le_refl _, fun _ => ⟨g, 0, rfl, fun j hj => by
    have hj2 : j < 2 := hj
    rcases (by omega : j = 0 ∨ j = 1) with rfl | rfl
    · rw [Lib.cell_of_heap hp]; rfl
    · rw [Lib.cell_of_heap hp]; rfl⟩⟩
  have tx2 : TxAt W (.slice (some ⟨g + 2, 0, none⟩) 1 1) [⟨#[46]⟩] := ⟨some ⟨g + 2, 0, none⟩, 1, rfl, Nat.le_refl _, fun _ => ⟨g + 2, 0, rfl, fun j hj => by
    have : j = 0 := by simp at hj; exact hj
    subst this
    rw [Lib.cell_of_heap hd]; rfl⟩⟩
  refine ⟨⟨some ⟨q, 0, none⟩, 4, rfl, Nat.le_refl _, fun r hr => ?_, fun _ => ⟨q, 0, rfl, fun j hj => ?_⟩⟩, rfl, fun j h1 h2 => ?_⟩
  · rcases List.mem_cons.1 hr with rfl | hr
    · exact ⟨⟨none, 0, 0, rfl⟩, _, _, _, rfl⟩
    rcases List.mem_cons.1 hr with rfl | hr
    · exact ⟨⟨_, _, _, rfl⟩, _, _, _, rfl⟩
    rcases List.mem_cons.1 hr with rfl | hr
    · exact ⟨⟨none, 0, 0, rfl⟩, none, 0, 0, rfl⟩
    rw [List.mem_singleton.1 hr]
    exact ⟨⟨none, 0, 0, rfl⟩, none, 0, 0, rfl⟩
  · have hj2 : j < 4 := hj
    rcases (by omega : j = 0 ∨ j = 1 ∨ j = 2 ∨ j = 3) with rfl | rfl | rfl | rfl
    · refine ⟨?_, ?_, ?_, ?_, ?_⟩ <;> (rw [Lib.cell_of_heap hb]; rfl)
    · refine ⟨?_, ?_, ?_, ?_, ?_⟩ <;> (rw [Lib.cell_of_heap hb]; rfl)
    · refine ⟨?_, ?_, ?_, ?_, ?_⟩ <;> (rw [Lib.cell_of_heap hb]; rfl)
    · refine ⟨?_, ?_, ?_, ?_, ?_⟩ <;> (rw [Lib.cell_of_heap hb]; rfl)
  · have hj2 : j < 4 := h1
    rcases (by omega : j = 0 ∨ j = 1 ∨ j = 2 ∨ j = 3) with rfl | rfl | rfl | rfl
    · exact ⟨rfl, msn, tx1, rfl⟩
    · exact ⟨rfl, msb, tx2, rfl⟩
    · exact ⟨rfl, msn, txn, rfl⟩
    · exact ⟨rfl, msn, txn, rfl⟩
set_option maxHeartbeats 2000000 in
theorem small3_any (w : World) : Calls Tryz.prog 24 #[] w fun e w' => ∃ g q, e = .returned (.slice (some ⟨q, 0, none⟩) 4 4) ∧ Ixs w' (.slice (some ⟨q, 0, none⟩) 4 4) (s3Q g) s3L ∧ Below w.heap.size w w' := by
  have a1 := heap_new w (.cells #[.string ⟨#[46]⟩, .string ⟨#[120]⟩] 9)
  have z1 : (w.alloc (.cells #[.string ⟨#[46]⟩, .string ⟨#[120]⟩] 9)).heap.size = w.heap.size + 1 := by simp
  have b1 := (Below.refl w.heap.size w).alloc (Nat.le_refl _) (.cells #[.string ⟨#[46]⟩, .string ⟨#[120]⟩] 9)
  obtain ⟨w1, hw1⟩ : ∃ w1, w.alloc (.cells #[.string ⟨#[46]⟩, .string ⟨#[120]⟩] 9) = w1 := ⟨_, rfl⟩
  rw [hw1] at a1 z1 b1
  have a2 := heap_new w1 (.cells #[.string ⟨#[98]⟩, .string ⟨#[118, 48, 46, 49, 46, 48]⟩] 42)
  have c1 := heap_old w1 (.cells #[.string ⟨#[98]⟩, .string ⟨#[118, 48, 46, 49, 46, 48]⟩] 42) a1
  have b2 := b1.alloc b1.size (.cells #[.string ⟨#[98]⟩, .string ⟨#[118, 48, 46, 49, 46, 48]⟩] 42)
  have z2 : (w1.alloc (.cells #[.string ⟨#[98]⟩, .string ⟨#[118, 48, 46, 49, 46, 48]⟩] 42)).heap.size = w.heap.size + 2 := by simp [z1]
  rw [z1] at a2
  obtain ⟨w2, hw2⟩ : ∃ w2, w1.alloc (.cells #[.string ⟨#[98]⟩, .string ⟨#[118, 48, 46, 49, 46, 48]⟩] 42) = w2 := ⟨_, rfl⟩
  rw [hw2] at a2 c1 b2 z2
  have a3 := heap_new w2 (.cells #[.string ⟨#[46]⟩] 9)
  have c2 := heap_old w2 (.cells #[.string ⟨#[46]⟩] 9) c1
  have d2 := heap_old w2 (.cells #[.string ⟨#[46]⟩] 9) a2
  have b3 := b2.alloc b2.size (.cells #[.string ⟨#[46]⟩] 9)
  have z3 : (w2.alloc (.cells #[.string ⟨#[46]⟩] 9)).heap.size = w.heap.size + 3 := by simp [z2]
  rw [z2] at a3
  obtain ⟨w3, hw3⟩ : ∃ w3, w2.alloc (.cells #[.string ⟨#[46]⟩] 9) = w3 := ⟨_, rfl⟩
  rw [hw3] at a3 c2 d2 b3 z3
  have a4 := heap_new w3 (.cells #[.string ⟨#[97]⟩, .string ⟨#[118, 49, 46, 48, 46, 48]⟩, .slice none 0 0, .slice (some ⟨w.heap.size, 0, none⟩) 2 2, .bool false, .string ⟨#[97]⟩, .string ⟨#[118, 49, 46, 49, 46, 48]⟩, .slice (some ⟨w.heap.size + 1, 0, none⟩) 1 1, .slice (some ⟨w.heap.size + 2, 0, none⟩) 1 1, .bool false, .string ⟨#[98]⟩, .string ⟨#[118, 48, 46, 49, 46, 48]⟩, .slice none 0 0, .slice none 0 0, .bool false, .string ⟨#[98]⟩, .string ⟨#[118, 48, 46, 50, 46, 48, 45, 114, 99]⟩, .slice none 0 0, .slice none 0 0, .bool false] 55)
  have c3 := heap_old w3 (.cells #[.string ⟨#[97]⟩, .string ⟨#[118, 49, 46, 48, 46, 48]⟩, .slice none 0 0, .slice (some ⟨w.heap.size, 0, none⟩) 2 2, .bool false, .string ⟨#[97]⟩, .string ⟨#[118, 49, 46, 49, 46, 48]⟩, .slice (some ⟨w.heap.size + 1, 0, none⟩) 1 1, .slice (some ⟨w.heap.size + 2, 0, none⟩) 1 1, .bool false, .string ⟨#[98]⟩, .string ⟨#[118, 48, 46, 49, 46, 48]⟩, .slice none 0 0, .slice none 0 0, .bool false, .string ⟨#[98]⟩, .string ⟨#[118, 48, 46, 50, 46, 48, 45, 114, 99]⟩, .slice none 0 0, .slice none 0 0, .bool false] 55) c2
  have d3 := heap_old w3 (.cells #[.string ⟨#[97]⟩, .string ⟨#[118, 49, 46, 48, 46, 48]⟩, .slice none 0 0, .slice (some ⟨w.heap.size, 0, none⟩) 2 2, .bool false, .string ⟨#[97]⟩, .string ⟨#[118, 49, 46, 49, 46, 48]⟩, .slice (some ⟨w.heap.size + 1, 0, none⟩) 1 1, .slice (some ⟨w.heap.size + 2, 0, none⟩) 1 1, .bool false, .string ⟨#[98]⟩, .string ⟨#[118, 48, 46, 49, 46, 48]⟩, .slice none 0 0, .slice none 0 0, .bool false, .string ⟨#[98]⟩, .string ⟨#[118, 48, 46, 50, 46, 48, 45, 114, 99]⟩, .slice none 0 0, .slice none 0 0, .bool false] 55) d2
  have e3 := heap_old w3 (.cells #[.string ⟨#[97]⟩, .string ⟨#[118, 49, 46, 48, 46, 48]⟩, .slice none 0 0, .slice (some ⟨w.heap.size, 0, none⟩) 2 2, .bool false, .string ⟨#[97]⟩, .string ⟨#[118, 49, 46, 49, 46, 48]⟩, .slice (some ⟨w.heap.size + 1, 0, none⟩) 1 1, .slice (some ⟨w.heap.size + 2, 0, none⟩) 1 1, .bool false, .string ⟨#[98]⟩, .string ⟨#[118, 48, 46, 49, 46, 48]⟩, .slice none 0 0, .slice none 0 0, .bool false, .string ⟨#[98]⟩, .string ⟨#[118, 48, 46, 50, 46, 48, 45, 114, 99]⟩, .slice none 0 0, .slice none 0 0, .bool false] 55) a3
  have b4 := b3.alloc b3.size (.cells #[.string ⟨#[97]⟩, .string ⟨#[118, 49, 46, 48, 46, 48]⟩, .slice none 0 0, .slice (some ⟨w.heap.size, 0, none⟩) 2 2, .bool false, .string ⟨#[97]⟩, .string ⟨#[118, 49, 46, 49, 46, 48]⟩, .slice (some ⟨w.heap.size + 1, 0, none⟩) 1 1, .slice (some ⟨w.heap.size + 2, 0, none⟩) 1 1, .bool false, .string ⟨#[98]⟩, .string ⟨#[118, 48, 46, 49, 46, 48]⟩, .slice none 0 0, .slice none 0 0, .bool false, .string ⟨#[98]⟩, .string ⟨#[118, 48, 46, 50, 46, 48, 45, 114, 99]⟩, .slice none 0 0, .slice none 0 0, .bool false] 55)
  rw [z3] at a4
  have HX := hid (s3_ixs a4 c3 d3 e3)
  have HB := hid b4
  subst hw3 hw2 hw1
  clear a1 a2 a3 a4 b1 b2 b3 b4 c1 c2 c3 d2 d3 e3
  go_enter Tryz.func24, Tryz.ntmps24
  go_wp2_with fail
  go_ret
  exact ⟨w.heap.size, w.heap.size + 3, rfl, HX.out, HB.out⟩
end Ve
end Go.Proofs.YtpafkniapacfdaaGreatDoor


namespace Go.Proofs.YtpafkniapacfdaaGreatDoor
open Go.RowKit
namespace Ve
end Ve
end Go.Proofs.YtpafkniapacfdaaGreatDoor


namespace Go.Proofs.YtpafkniapacfdaaGreatDoor
open Go.RowKit
namespace Ve
def shortN (X : List Ln) : Prop := ∀ x, x ∈ X → x.1.1.size < 999999 ∧ x.1.2.size < 999999
theorem txE_0 {X : List Ln} (h : 0 < X.length) : txE X 0 = exW none X[0].1 := by
  unfold txE
  rw [exE_0 (by simpa using h)]; simp
theorem txE_1 {X : List Ln} {k : Nat} (h : k + 1 < X.length) : txE X (k + 1) = exW (some (X[k]'(by omega)).1) X[k + 1].1 := by
  unfold txE
  rw [exE_1 (by simpa using h)]; simp
set_option maxHeartbeats 1000000 in
theorem chkAt_bad (k : Nat) (p v : ByteArray) (pr : Option Bm) (b o n c : Nat) (A : Nat → Addr) (m : Int) (W : World) (hp : p.size < 999999) (hv : v.size < 999999) (S : Te W A m) (hk : k < n) (h3 : W.cell? ⟨b, o + k * 3, none⟩ = some (.string p)) (h4 : W.cell? ⟨b, o + k * 3 + 1, none⟩ = some (.string v)) (h : mErr (p, v) ≠ 0) :
    Calls Tryz.prog 35 #[.slice (some ⟨b, o, none⟩) n c, .int .i64 (k : Int)] W fun e w' => e = .returned (errA A (exW pr (p, v))) ∧ Below W.heap.size W w' := by
  rw [exW_bad h, errA_if A h]
  have HC := hid (mcheck_any p v A m W (by omega) (by omega) S)
  rw [show modErr p.data.toList v.data.toList = mErr (p, v) from rfl, errA_if A h] at HC
  have g1 := ix_pos k
  have g2 := ix_lt hk
  clear S h hk
  go_enter Tryz.func35, Tryz.ntmps35
  go_wp2_with fail
  refine HC.out.mono ?_
  rintro e w1 ⟨rfl, hb⟩
  have HB := hid hb
  clear hb
  go_wp2_with fail
  go_ret
  exact ⟨rfl, HB.out⟩
set_option maxHeartbeats 1000000 in
theorem chkAt_0 (p v : ByteArray) (b o n c : Nat) (A : Nat → Addr) (m : Int) (W : World) (hp : p.size < 999999) (hv : v.size < 999999) (S : Te W A m) (hk : 0 < n) (h3 : W.cell? ⟨b, o, none⟩ = some (.string p)) (h4 : W.cell? ⟨b, o + 1, none⟩ = some (.string v)) (h : mErr (p, v) = 0) :
    Calls Tryz.prog 35 #[.slice (some ⟨b, o, none⟩) n c, .int .i64 0] W fun e w' => e = .returned (errA A (exW none (p, v))) ∧ Below W.heap.size W w' := by
  rw [exW_none h, errA0]
  have HC := hid (mcheck_any p v A m W (by omega) (by omega) S)
  rw [show modErr p.data.toList v.data.toList = mErr (p, v) from rfl, h, errA0] at HC
  have g2 : (0 : Int) < (n : Int) := by omega
  clear S h hk
  go_enter Tryz.func35, Tryz.ntmps35
  go_wp2_with fail
  refine HC.out.mono ?_
  rintro e w1 ⟨rfl, hb⟩
  have HB := hid hb
  clear hb
  go_wp2_with fail
  go_quiet (fail)
  go_wp2_with fail
  go_ret
  exact ⟨rfl, below_drawn_of HB.out _⟩
set_option maxHeartbeats 2000000 in
theorem chkAt_1 (k : Nat) (p v q u : ByteArray) (b o n c : Nat) (A : Nat → Addr) (m : Int) (W : World) (hp : p.size < 999999) (hv : v.size < 999999) (hu : u.size < 999999) (S : Te W A m) (hk : k + 1 < n) (hn : n ≤ 1000000)
    (h1 : W.cell? ⟨b, o + k * 3, none⟩ = some (.string q)) (h2 : W.cell? ⟨b, o + k * 3 + 1, none⟩ = some (.string u)) (h3 : W.cell? ⟨b, o + (k + 1) * 3, none⟩ = some (.string p)) (h4 : W.cell? ⟨b, o + (k + 1) * 3 + 1, none⟩ = some (.string v)) (h : mErr (p, v) = 0) :
    Calls Tryz.prog 35 #[.slice (some ⟨b, o, none⟩) n c, .int .i64 ((k : Int) + 1)] W fun e w' => e = .returned (errA A (exW (some (q, u)) (p, v))) ∧ Below W.heap.size W w' := by
  rw [exW_some h]
  have HS := hid S
  have HC := hid (mcheck_any p v A m W (by omega) (by omega) S)
  rw [show modErr p.data.toList v.data.toList = mErr (p, v) from rfl, h, errA0] at HC
  have HA := hid (fun W (SW : Te W A m) => ahead_any q u p v A m W hu hv SW)
  rw [show aheadB q.data.toList u.data.toList p.data.toList v.data.toList = mAhead (q, u) (p, v) from rfl] at HA
  have H1 := hid h1
  have H2 := hid h2
  have H3 := hid h3
  have H4 := hid h4
  have g1 : (0 : Int) ≤ (k : Int) := by omega
  have g2 : (k : Int) < (n : Int) := by omega
  have g3 : (k : Int) + 1 - 1 = (k : Int) := by omega
  have g4 : (0 : Int) < (k : Int) + 1 := by omega
  have g5 : (0 : Int) ≤ (k : Int) + 1 := by omega
  have g6 : (k : Int) + 1 < (n : Int) := by omega
  have g7 : ((k : Int) + 1).toNat = k + 1 := by omega
  have gw : IntKind.i64.wrap (k : Int) = (k : Int) := by rw [IntKind.wrap_i64]; omega
  clear S h hk
  generalize hz : mAhead (q, u) (p, v) = z at *
  clear hz
  cases z
  · rw [if_neg (by simp), errA_if A (by omega)]
    go_enter Tryz.func35, Tryz.ntmps35
    go_wp2_with fail
    refine HC.out.mono ?_
    rintro e w1 ⟨rfl, hb⟩
    have HB := hid hb
    have HS1 := hid (HS.out.below hb)
    have c1 := cell_below HB.out H1.out
    have c2 := cell_below HB.out H2.out
    have c3 := cell_below HB.out H3.out
    have c4 := cell_below HB.out H4.out
    clear hb h1 h2 h3 h4
    have HT := hid (fun W' (hW : Below w1.heap.size w1 W') => (show (fun W' => W'.cell? ⟨b, o + k * 3, none⟩ = some (.string q) ∧ W'.cell? ⟨b, o + k * 3 + 1, none⟩ = some (.string u) ∧ W'.cell? ⟨b, o + (k + 1) * 3, none⟩ = some (.string p) ∧ W'.cell? ⟨b, o + (k + 1) * 3 + 1, none⟩ = some (.string v) ∧ Hid (Below w1.heap.size w1 W')) W' from ⟨cell_below hW c1, cell_below hW c2, cell_below hW c3, cell_below hW c4, hid hW⟩))
    go_wp2_with fail
    go_region_held (fun W' => W'.cell? ⟨b, o + k * 3, none⟩ = some (.string q) ∧ W'.cell? ⟨b, o + k * 3 + 1, none⟩ = some (.string u) ∧ W'.cell? ⟨b, o + (k + 1) * 3, none⟩ = some (.string p) ∧ W'.cell? ⟨b, o + (k + 1) * 3 + 1, none⟩ = some (.string v) ∧ Hid (Below w1.heap.size w1 W')) (first | exact HT.out _ HRa.out | exact HT.out _ (below_drawn _ 1)) (first
      | (go_at_call 71; refine (HA.out _ (HS1.out.below (below_drawn _ 1))).mono ?_; rintro e w2 ⟨rfl, hb⟩; have HRa := hid ((below_drawn w1 1).trans (hb.mono (Nat.le_refl _))); clear hb))
    all_goals
      have HB2 := hid (HB.out.trans (HRa.out.mono HB.out.size))
      have gg := (HS1.out.below HRa.out).sen.g7
      clear c1 c2 c3 c4
      go_wp2_with fail
      go_ret
      exact ⟨rfl, HB2.out⟩
  · rw [if_pos rfl, errA0]
    go_enter Tryz.func35, Tryz.ntmps35
    go_wp2_with fail
    refine HC.out.mono ?_
    rintro e w1 ⟨rfl, hb⟩
    have HB := hid hb
    have HS1 := hid (HS.out.below hb)
    have c1 := cell_below HB.out H1.out
    have c2 := cell_below HB.out H2.out
    have c3 := cell_below HB.out H3.out
    have c4 := cell_below HB.out H4.out
    clear hb h1 h2 h3 h4
    have HT := hid (fun W' (hW : Below w1.heap.size w1 W') => (show (fun W' => W'.cell? ⟨b, o + k * 3, none⟩ = some (.string q) ∧ W'.cell? ⟨b, o + k * 3 + 1, none⟩ = some (.string u) ∧ W'.cell? ⟨b, o + (k + 1) * 3, none⟩ = some (.string p) ∧ W'.cell? ⟨b, o + (k + 1) * 3 + 1, none⟩ = some (.string v) ∧ Hid (Below w1.heap.size w1 W')) W' from ⟨cell_below hW c1, cell_below hW c2, cell_below hW c3, cell_below hW c4, hid hW⟩))
    go_wp2_with fail
    go_region_held (fun W' => W'.cell? ⟨b, o + k * 3, none⟩ = some (.string q) ∧ W'.cell? ⟨b, o + k * 3 + 1, none⟩ = some (.string u) ∧ W'.cell? ⟨b, o + (k + 1) * 3, none⟩ = some (.string p) ∧ W'.cell? ⟨b, o + (k + 1) * 3 + 1, none⟩ = some (.string v) ∧ Hid (Below w1.heap.size w1 W')) (first | exact HT.out _ HRa.out | exact HT.out _ (below_drawn _ 1)) (first
      | (go_at_call 71; refine (HA.out _ (HS1.out.below (below_drawn _ 1))).mono ?_; rintro e w2 ⟨rfl, hb⟩; have HRa := hid ((below_drawn w1 1).trans (hb.mono (Nat.le_refl _))); clear hb))
    all_goals
      have HB2 := hid (HB.out.trans (HRa.out.mono HB.out.size))
      clear c1 c2 c3 c4
      go_wp2_with fail
      go_ret
      exact ⟨rfl, HB2.out⟩
theorem chkAt_any (X : List Ln) (v : Value) (A : Nat → Addr) (m : Int) (W : World) (hX : X.length ≤ 1000000) (hs : shortN X) (S : Te W A m) (hv : LnAt .u32 W v X) (i : Nat) (hi : i < X.length) :
    Calls Tryz.prog 35 #[v, .int .i64 (i : Int)] W fun e w' => e = .returned (errA A (txE X i)) ∧ Below W.heap.size W w' := by
  obtain ⟨a, c, rfl, _, h⟩ := hv
  obtain ⟨b, o, rfl, hc⟩ := h (by intro e; rw [e] at hi; simp at hi)
  have hz := hs X[i] (List.getElem_mem hi)
  cases i with
  | zero =>
    rw [txE_0 hi]
    have h0 := hc 0 hi
    by_cases e0 : mErr X[0].1 = 0
    · exact chkAt_0 X[0].1.1 X[0].1.2 b o _ c A m W hz.1 hz.2 S hi (by simpa using h0.1) (by simpa using h0.2.1) e0
    · exact chkAt_bad 0 X[0].1.1 X[0].1.2 none b o _ c A m W hz.1 hz.2 S hi h0.1 h0.2.1 e0
  | succ k =>
    rw [txE_1 hi]
    have h0 := hc k (by omega)
    have h1 := hc (k + 1) hi
    by_cases e0 : mErr X[k + 1].1 = 0
    · exact chkAt_1 k X[k + 1].1.1 X[k + 1].1.2 X[k].1.1 X[k].1.2 b o X.length c A m W hz.1 hz.2 (hs X[k] (List.getElem_mem (by omega))).2 S hi hX h0.1 h0.2.1 h1.1 h1.2.1 e0
    · exact chkAt_bad (k + 1) X[k + 1].1.1 X[k + 1].1.2 _ b o _ c A m W hz.1 hz.2 S hi h1.1 h1.2.1 e0
end Ve
end Go.Proofs.YtpafkniapacfdaaGreatDoor
