/-
  Newer ones, plain: the latest of a path; built on until nothing changes.
-/
import Derived.Test.YtanponneancajaaGreatDoorBxP
import Derived.Test.YtanponneancajaaGreatDoorKpO
namespace Go.Proofs.YtanponneancajaaGreatDoor
open Go.RowKit Go.Maps
namespace Ve

/-- What Latest is made of. -/
abbrev KeptT (Q : List Raw) (t : ByteArray) (X : List ByteArray) : Prop := Kept (verL (bestR (ofP t Q))) (verL (bestR (ofP t Q))).length X
open Classical in
/-- The latest of a path. -/
noncomputable def latV (Q : List Raw) (t : ByteArray) : ByteArray := if h : ∃ X, KeptT Q t X then lastT h.choose else ⟨#[]⟩
theorem latV_of {Q : List Raw} {t : ByteArray} {X : List ByteArray} (h : KeptT Q t X) : lastT X = latV Q t := by
  have he : ∃ X, KeptT Q t X := ⟨X, h⟩
  unfold latV
  rw [dif_pos he, kept_one h he.choose_spec]
/-- The latest of each path. -/
noncomputable def latL (Q : List Raw) (E : List Bm) : List Bm := E.map fun m => (m.1, latV Q m.1)
theorem latL_len (Q : List Raw) (E : List Bm) : (latL Q E).length = E.length := by simp [latL]
/-- Each latest one is there. -/
def LatIn (Q : List Raw) (L : List Ent) (E : List Bm) : Prop := ∀ m, m ∈ E → (m.1, latV Q m.1) ∈ univ L
theorem lat_in {w : World} {v : Value} {Q : List Raw} {L : List Ent} {t : ByteArray} {X : List ByteArray} (I : Ixs w v Q L) (hc : (chk Q L).1 = 0) (ht : ∃ m, m ∈ univ L ∧ m.1 = t) (hK : KeptT Q t X) : (t, latV Q t) ∈ univ L := by
  have g := good_of I hc
  obtain ⟨m, hm, e⟩ := ht
  rw [← univ_eq I] at hm
  obtain ⟨r0, hr0, rfl⟩ := List.mem_map.1 hm
  have hne : ofP t Q ≠ [] := List.ne_nil_of_mem (g.ofP_mem.2 ⟨hr0, e⟩)
  have hsub : ∀ r, r ∈ bestR (ofP t Q) → r ∈ Q := fun r hr => ofP_sub r (bestR_sub hr)
  obtain ⟨⟨r, hr, er⟩, -⟩ := kept_last g hsub (bestR_ne hne) hK
  have hrq := g.ofP_mem.1 (bestR_sub hr)
  rw [← univ_eq I, ← latV_of hK]
  exact List.mem_map.2 ⟨r, hrq.1, Prod.ext hrq.2 er⟩
/-- Built on once. -/
noncomputable def upF (Q : List Raw) (L : List Ent) (E : List Bm) : List Bm := bX Q L (E ++ latL Q E)
theorem latL_in {Q : List Raw} {L : List Ent} {E : List Bm} (h : LatIn Q L E) : ∀ m, m ∈ latL Q E → m ∈ univ L := fun m hm => by
  obtain ⟨x, hx, rfl⟩ := List.mem_map.1 hm
  exact h x hx
theorem upG {w : World} {v : Value} {Q : List Raw} {L : List Ent} {E : List Bm} (I : Ixs w v Q L) (hc : (chk Q L).1 = 0) (hE : Sl L E) (hl : LatIn Q L E) : (chkG Q L (E ++ latL Q E)).1 = 0 :=
  chkG_in I hc fun m hm => by
    rcases List.mem_append.1 hm with h | h
    · exact hE.un m h
    · exact latL_in hl m h
theorem up_over {w : World} {v : Value} {Q : List Raw} {L : List Ent} {E : List Bm} (I : Ixs w v Q L) (hc : (chk Q L).1 = 0) (hE : Sl L E) (hl : LatIn Q L E) : undB E (upF Q L E) = true :=
  bX_over I (upG I hc hE hl) fun _ hm => .root (List.mem_append_left _ hm)
theorem up_lat {w : World} {v : Value} {Q : List Raw} {L : List Ent} {E : List Bm} (I : Ixs w v Q L) (hc : (chk Q L).1 = 0) (hE : Sl L E) (hl : LatIn Q L E) : undB (latL Q E) (upF Q L E) = true :=
  bX_over I (upG I hc hE hl) fun _ hm => .root (List.mem_append_right _ hm)
theorem hasV_trans {Q : List Raw} {L : List Ent} {E F : List Bm} (hc : (chk Q L).1 = 0) (hE : Sl L E) (hF : Sl L F) (hu : undB E F = true) {m : Bm} (hm : m ∈ univ L) (h : hasV E m = true) : hasV F m = true := by
  obtain ⟨x, h1, h2⟩ := hasV_iff.1 h
  obtain ⟨hx, hp⟩ := atP_mem h1
  have rt := univ_right hc
  exact hasV_up (fun y hy => rt y (hF.un y hy)) (rt m hm) (rt x (hE.un x hx)) hp ((less_le (rt x (hE.un x hx)) (rt m hm)).1 h2) (List.all_eq_true.1 hu x hx)
theorem undB_trans {Q : List Raw} {L : List Ent} {D E F : List Bm} (hc : (chk Q L).1 = 0) (hD : Sl L D) (hE : Sl L E) (hF : Sl L F) (h1 : undB D E = true) (h2 : undB E F = true) : undB D F = true := by
  unfold undB
  rw [List.all_eq_true]
  intro m hm
  exact hasV_trans hc hE hF h2 (hD.un m hm) (List.all_eq_true.1 h1 m hm)
theorem undB_refl {Q : List Raw} {L : List Ent} {E : List Bm} (hc : (chk Q L).1 = 0) (hE : Sl L E) : undB E E = true := by
  unfold undB
  rw [List.all_eq_true]
  intro m hm
  exact hasV_of hE.ri hm rfl (ordV_selfJ (univ_right hc m (hE.un m hm)))
/-- Over it, and not it: one more entry is had. -/
theorem over_more {Q : List Raw} {L : List Ent} {E F : List Bm} (hc : (chk Q L).1 = 0) (hE : Sl L E) (hF : Sl L F) (hu : undB E F = true) (hne : F ≠ E) : ∃ m, m ∈ univ L ∧ hasV F m = true ∧ hasV E m = false := by
  have rt := univ_right hc
  by_cases hs : ∀ m, m ∈ F → m ∈ E
  · refine absurd (rising_ext hF.ri hE.ri fun m => ⟨hs m, fun hm => ?_⟩) hne
    obtain ⟨x, h1, h2⟩ := hasV_iff.1 (List.all_eq_true.1 hu m hm)
    obtain ⟨hx, hp⟩ := atP_mem h1
    have := rising_same hE.ri (hs x hx) hm hp
    rw [← this]; exact hx
  · obtain ⟨m, hm⟩ := Classical.not_forall.1 hs
    obtain ⟨hm, hn⟩ : m ∈ F ∧ ¬ m ∈ E := by
      by_cases h : m ∈ F
      · exact ⟨h, fun h2 => hm fun _ => h2⟩
      · exact absurd (fun h2 => absurd h2 h) hm
    refine ⟨m, hF.un m hm, hasV_of hF.ri hm rfl (ordV_selfJ (rt m (hF.un m hm))), ?_⟩
    cases hb : hasV E m
    · rfl
    · obtain ⟨b, h1, h2⟩ := hasV_iff.1 hb
      obtain ⟨hbE, hbp⟩ := atP_mem h1
      obtain ⟨f, h3, h4⟩ := hasV_iff.1 (List.all_eq_true.1 hu b hbE)
      obtain ⟨hfF, hfp⟩ := atP_mem h3
      have : f = m := rising_same hF.ri hfF hm (hfp.trans hbp)
      subst this
      have r1 := rt b (hE.un b hbE)
      have r2 := rt f (hF.un f hm)
      have : b = f := ver_same r1 r2 hbp ((less_le r2 r1).1 h4) ((less_le r1 r2).1 h2)
      subst this
      exact absurd hbE hn
/-- How many entries a selection has, in no less a version. -/
def cntV (L : List Ent) (E : List Bm) : Nat := ((univ L).filter (hasV E)).length
theorem cntV_le (L : List Ent) (E : List Bm) : cntV L E ≤ L.length := by
  have := List.length_filter_le (hasV E) (univ L)
  rw [univ_len] at this
  exact this
theorem filter_lt {α : Type} {p q : α → Bool} : ∀ {l : List α}, (∀ x, x ∈ l → p x = true → q x = true) → (∃ x, x ∈ l ∧ q x = true ∧ p x = false) → (l.filter p).length < (l.filter q).length
  | [], _, ⟨x, hx, _⟩ => by cases hx
  | a :: l, h, ⟨x, hx, h1, h2⟩ => by
    have hl : ∀ x, x ∈ l → p x = true → q x = true := fun x hx => h x (List.mem_cons_of_mem _ hx)
    have hle : (l.filter p).length ≤ (l.filter q).length := by
      clear h hx h1 h2
      induction l with
      | nil => exact Nat.le_refl _
      | cons b l ih =>
        have ih := ih (fun x hx => hl x (List.mem_cons_of_mem _ hx))
        rw [List.filter_cons, List.filter_cons]
        cases hp : p b
        · cases hq : q b <;> simp <;> omega
        · rw [hl b (by simp) hp]; simpa using ih
    rw [List.filter_cons, List.filter_cons]
    rcases List.mem_cons.1 hx with rfl | hx
    · rw [h1, h2]; simp; omega
    · have ih := filter_lt hl ⟨x, hx, h1, h2⟩
      cases hp : p a
      · cases hq : q a <;> simp <;> omega
      · rw [h a (by simp) hp]; simpa using ih
theorem cntV_lt {Q : List Raw} {L : List Ent} {E F : List Bm} (hc : (chk Q L).1 = 0) (hE : Sl L E) (hF : Sl L F) (hu : undB E F = true) (hne : F ≠ E) : cntV L E < cntV L F := by
  obtain ⟨m, h1, h2, h3⟩ := over_more hc hE hF hu hne
  exact filter_lt (fun x hx h => hasV_trans hc hE hF hu hx h) ⟨m, h1, h2, h3⟩
/-- Built on so often. -/
noncomputable def upN (Q : List Raw) (L : List Ent) (E : List Bm) : Nat → List Bm
  | 0 => E
  | n + 1 => upF Q L (upN Q L E n)
theorem upN_app (Q : List Raw) (L : List Ent) (E : List Bm) (a : Nat) : ∀ b, upN Q L (upN Q L E a) b = upN Q L E (a + b)
  | 0 => rfl
  | b + 1 => by
    show upF Q L (upN Q L (upN Q L E a) b) = upF Q L (upN Q L E (a + b))
    rw [upN_app Q L E a b]
theorem upN_fix {Q : List Raw} {L : List Ent} {E : List Bm} (h : upF Q L E = E) : ∀ n, upN Q L E n = E
  | 0 => rfl
  | n + 1 => by show upF Q L (upN Q L E n) = E; rw [upN_fix h n, h]
/-- Where nothing changes. -/
structure Fix (Q : List Raw) (L : List Ent) (E0 E : List Bm) : Prop where
  n : ∃ n, E = upN Q L E0 n
  f : upF Q L E = E
theorem Fix.one {Q : List Raw} {L : List Ent} {E0 E F : List Bm} (hE : Fix Q L E0 E) (hF : Fix Q L E0 F) : E = F := by
  obtain ⟨a, ha⟩ := hE.n
  obtain ⟨b, hb⟩ := hF.n
  rcases Nat.le_total a b with h | h
  · obtain ⟨d, rfl⟩ := Nat.exists_eq_add_of_le h
    rw [hb, ← upN_app, ← ha, upN_fix hE.f]
  · obtain ⟨d, rfl⟩ := Nat.exists_eq_add_of_le h
    rw [ha, ← upN_app, ← hb, upN_fix hF.f]
theorem Fix.self {Q : List Raw} {L : List Ent} {E : List Bm} (h : upF Q L E = E) : Fix Q L E E := ⟨⟨0, rfl⟩, h⟩
/-- What was built on is built of itself. -/
theorem up_again {w : World} {v : Value} {Q : List Raw} {L : List Ent} {E : List Bm} (I : Ixs w v Q L) (hc : (chk Q L).1 = 0) (hE : Sl L E) (hl : LatIn Q L E) (h : upF Q L E = E) : bX Q L E = E := by
  have hg := upG I hc hE hl
  have hg2 := chkG_in I hc hE.un
  have j := bX_jn Q L (E ++ latL Q E)
  rw [show bX Q L (E ++ latL Q E) = E from h] at j
  have jE : Jn (rX Q L E) E := ⟨hE.ri, fun e he => ⟨(rX_mem I hg2).2 (.root he), univ_right hc e (hE.un e he)⟩, fun x hx hr => j.top x ((rX_mem I hg).2 (((rX_mem I hg2).1 hx).mono fun _ hm => List.mem_append_left _ hm)) hr⟩
  exact (bX_jn Q L E).one jE (fun _ _ => Iff.rfl)
/-- Of what was built on the latest is not greater. -/
theorem up_news {w : World} {v : Value} {Q : List Raw} {L : List Ent} {E : List Bm} (I : Ixs w v Q L) (hc : (chk Q L).1 = 0) (hE : Sl L E) (hl : LatIn Q L E) (h : upF Q L E = E) : ∀ m, m ∈ E → lessB (vb m) (latV Q m.1).data.toList = false := fun m hm => by
  have hu := up_lat I hc hE hl
  rw [h] at hu
  have h1 := List.all_eq_true.1 hu (m.1, latV Q m.1) (List.mem_map.2 ⟨m, hm, rfl⟩)
  rw [hasV_rising (m := (m.1, latV Q m.1)) hE.ri hm rfl] at h1
  have h2 : (!lessB (vb m) (latV Q m.1).data.toList) = true := h1
  simpa using h2
/-- All the way it is over what it began with. -/
theorem over_step {w : World} {v : Value} {Q : List Raw} {L : List Ent} {E0 E : List Bm} (I : Ixs w v Q L) (hc : (chk Q L).1 = 0) (h0 : Sl L E0) (hE : Sl L E) (hl : LatIn Q L E) (h : undB E0 E = true) : undB E0 (upF Q L E) = true :=
  undB_trans hc h0 hE (bX_sl _ _ _) h (up_over I hc hE hl)
end Ve
end Go.Proofs.YtanponneancajaaGreatDoor
