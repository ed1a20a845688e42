
import Derived.Test.YtpafkniapacfdaaGreatDoorSq7
import Derived.Test.YtpafkniapacfdaaGreatDoorSq21
import Derived.Test.YtpafkniapacfdaaGreatDoorSq26
import Derived.Test.YtpafkniapacfdaaGreatDoorSq11
import Derived.Test.YtpafkniapacfdaaGreatDoorSq16
import Derived.Test.YtpafkniapacfdaaGreatDoorSq15
import Derived.Test.YtpafkniapacfdaaGreatDoorSq24
import Derived.Test.YtpafkniapacfdaaGreatDoorSq25
import Derived.Test.YtpafkniapacfdaaGreatDoorSq20
namespace Go.Proofs.YtpafkniapacfdaaGreatDoor
open Go.RowKit
namespace Ve
theorem idx_is {P : Raw → Bool} {L : List Raw} {k : Nat} (h : idxOf P L = (k : Int)) : ∃ hk : k < L.length, P L[k] = true := by
  unfold idxOf at h
  cases h1 : fstE (idxE P L) L.length with
  | none => rw [h1] at h; simp only at h; omega
  | some j =>
    rw [h1] at h
    simp only at h
    have e : j = k := by omega
    subst e
    obtain ⟨a, b, _⟩ := fstE_of_some h1
    refine ⟨a, ?_⟩
    rw [idxE_at a] at b
    cases hp : P L[j] with
    | true => rfl
    | false => rw [hp] at b; exact absurd rfl b
theorem ErrAt.kind {W : World} {A : Nat → Addr} {x : Value} {c : Nat} {o : Option Nat} (h : ErrAt W A x c o) : (c = 0 ∧ x = .nilIface) ∨ (c ≠ 0 ∧ ∃ T a, x = .iface T (.pointer (some a))) := by
  cases o with
  | none =>
    have h : x = errA A c := h
    by_cases hc : c = 0
    · subst hc; exact Or.inl ⟨rfl, h⟩
    · obtain ⟨a, ha⟩ := errA_ne A hc
      exact Or.inr ⟨hc, _, a, h.trans ha⟩
  | some i =>
    obtain ⟨h1, b, h2, _⟩ := h
    exact Or.inr ⟨h1, _, _, h2⟩
theorem okI_iff {L : List Ent} (h : okI L = true) : (L.length ≤ 30 ∨ L.length = 101) ∧ ∀ e, e ∈ L → e.1.1.size ≤ 70 ∧ e.1.2.size ≤ 60 ∧ e.2.1.length ≤ 25 ∧ (∀ m, m ∈ e.2.1 → m.1.size ≤ 70 ∧ m.2.size ≤ 60) ∧ e.2.2.1.length ≤ 15 ∧ ∀ x, x ∈ e.2.2.1 → x.size ≤ 70 := by
  unfold okI at h
  rw [Bool.and_eq_true] at h
  obtain ⟨h1, h2⟩ := h
  refine ⟨by simpa [okN] using h1, fun e he => ?_⟩
  have h3 := List.all_eq_true.1 h2 e he
  unfold okE at h3
  simp only [Bool.and_eq_true, decide_eq_true_eq] at h3
  obtain ⟨⟨⟨⟨a, b⟩, c⟩, d⟩, f⟩ := h3
  obtain ⟨c1, c2⟩ := okL_iff c
  refine ⟨a, b, c1, c2, d, fun x hx => ?_⟩
  have := List.all_eq_true.1 f x hx
  simpa using this
theorem okI_sh {L : List Ent} (h : okI L = true) : ∀ e, e ∈ L → ShE e := fun e he => by
  obtain ⟨a, b, c, d, f, g⟩ := (okI_iff h).2 e he
  exact ⟨by omega, by omega, by omega, fun m hm => ⟨by have := (d m hm).1; omega, by have := (d m hm).2; omega⟩, by omega, fun x hx => by have := g x hx; omega⟩
theorem okI_fits {L : List Ent} (h : okI L = true) : ∀ e, e ∈ L → Fits e := fun e he => by
  obtain ⟨a, b, c, d, f, g⟩ := (okI_iff h).2 e he
  exact ⟨by omega, by omega⟩
end Ve
end Go.Proofs.YtpafkniapacfdaaGreatDoor


namespace Go.Proofs.YtpafkniapacfdaaGreatDoor
open Go.RowKit
namespace Ve
abbrev vb (m : Bm) : List UInt8 := m.2.data.toList
theorem ahead_same {a b : Bm} (h : a.1 = b.1) : mAhead a b = lessB (vb a) (vb b) := by
  unfold mAhead aheadB
  rw [if_pos (by rw [h])]
theorem ahead_other {a b : Bm} (h : a.1 ≠ b.1) : mAhead a b = lt a.1 b.1 := by
  unfold mAhead aheadB
  rw [if_neg (fun e => h (str_ext e))]
  rfl
theorem less_right {s t : List UInt8} (hs : verErr s = 0) (ht : verErr t = 0) : lessB s t = decide (ordV s t < 0) := by
  unfold lessB
  simp [hs, ht]
def nfC (a b : Bm) : Int := if a.1 = b.1 then (if mAhead b a then -1 else if mAhead a b then 1 else 0) else Lib.compareBytes a.1.data.toList b.1.data.toList
structure Rt (m : Bm) : Prop where
  ok : mErr m = 0
  p : m.1.size < 999999
  v : m.2.size < 999999
theorem Rt.ver {m : Bm} (h : Rt m) : verErr (vb m) = 0 := (mErr_zero h.ok).2
theorem nf_lt {a b : Bm} (ha : Rt a) (hb : Rt b) : nfC a b < 0 ↔ (lt a.1 b.1 = true ∨ (a.1 = b.1 ∧ ordV (vb b) (vb a) < 0)) := by
  unfold nfC
  by_cases h : a.1 = b.1
  · rw [if_pos h, ahead_same h.symm, ahead_same h, less_right hb.ver ha.ver, less_right ha.ver hb.ver]
    have hl : ¬ lt a.1 b.1 = true := by rw [h, lt_irrefl]; simp
    by_cases h1 : ordV (vb b) (vb a) < 0
    · simp [h1, h]
    · by_cases h2 : ordV (vb a) (vb b) < 0
      · simp [h1, h2, hl]
      · simp [h1, h2, hl]
  · rw [if_neg h]
    unfold lt
    simp [h]
theorem ordV_le_trans {s t u : List UInt8} (hs : verErr s = 0) (ht : verErr t = 0) (hu : verErr u = 0) (h1 : ordV s t ≤ 0) (h2 : ordV t u ≤ 0) : ordV s u ≤ 0 := by
  rcases Int.lt_or_eq_of_le h1 with a | a
  · rcases Int.lt_or_eq_of_le h2 with b | b
    · exact Int.le_of_lt (ordV_trans a b)
    · rw [← (ordV_zero ht hu).1 b]; exact h1
  · rw [(ordV_zero hs ht).1 a]; exact h2
theorem ordV_total {s t : List UInt8} (h : ¬ ordV s t < 0) : ordV t s ≤ 0 := by rw [ordV_swap s t]; omega
def nfW (a b : Bm) : Prop := lt a.1 b.1 = true ∨ (a.1 = b.1 ∧ ordV (vb b) (vb a) ≤ 0)
theorem nf_not {a b : Bm} (ha : Rt a) (hb : Rt b) (h : ¬ nfC b a < 0) : nfW a b := by
  rw [nf_lt hb ha] at h
  rcases lt_three a.1 b.1 with h1 | h1 | h1
  · exact Or.inl h1
  · refine Or.inr ⟨h1, ordV_total fun h2 => h (Or.inr ⟨h1.symm, h2⟩)⟩
  · exact absurd (Or.inl h1) h
theorem nf_irr {a : Bm} (ha : Rt a) : ¬ nfC a a < 0 := by
  rw [nf_lt ha ha]
  rintro (h | ⟨_, h⟩)
  · rw [lt_irrefl] at h; cases h
  · rw [(ordV_zero ha.ver ha.ver).2 rfl] at h; omega
theorem nf_trans {a b c : Bm} (ha : Rt a) (hb : Rt b) (hc : Rt c) (h1 : nfC a b < 0) (h2 : nfC b c < 0) : nfC a c < 0 := by
  rw [nf_lt ha hb] at h1
  rw [nf_lt hb hc] at h2
  rw [nf_lt ha hc]
  rcases h1 with h1 | ⟨e1, h1⟩
  · rcases h2 with h2 | ⟨e2, h2⟩
    · exact Or.inl (lt_trans h1 h2)
    · rw [← e2]; exact Or.inl h1
  · rcases h2 with h2 | ⟨e2, h2⟩
    · rw [e1]; exact Or.inl h2
    · exact Or.inr ⟨e1.trans e2, ordV_trans h2 h1⟩
theorem nfW_trans {a b c : Bm} (ha : Rt a) (hb : Rt b) (hc : Rt c) (h1 : nfW a b) (h2 : nfW b c) : nfW a c := by
  rcases h1 with h1 | ⟨e1, h1⟩
  · rcases h2 with h2 | ⟨e2, h2⟩
    · exact Or.inl (lt_trans h1 h2)
    · rw [nfW, ← e2]; exact Or.inl h1
  · rcases h2 with h2 | ⟨e2, h2⟩
    · rw [nfW, e1]; exact Or.inl h2
    · exact Or.inr ⟨e1.trans e2, ordV_le_trans hc.ver hb.ver ha.ver h2 h1⟩
theorem nfW_not {a b : Bm} (ha : Rt a) (hb : Rt b) (h : nfW a b) : ¬ nfC b a < 0 := by
  rw [nf_lt hb ha]
  rintro (h2 | ⟨e, h2⟩)
  · rcases h with h | ⟨e, _⟩
    · rw [lt_asymm h] at h2; cases h2
    · rw [e, lt_irrefl] at h2; cases h2
  · rcases h with h | ⟨_, h⟩
    · rw [e, lt_irrefl] at h; cases h
    · rw [ordV_swap (vb b) (vb a)] at h2; omega
structure Jn (D E : List Bm) : Prop where
  ri : rising E
  sub : ∀ e, e ∈ E → e ∈ D ∧ mErr e = 0
  top : ∀ x, x ∈ D → mErr x = 0 → ∃ e, e ∈ E ∧ e.1 = x.1 ∧ ordV (vb x) (vb e) ≤ 0
theorem rising_same {E : List Bm} (h : rising E) {a b : Bm} (ha : a ∈ E) (hb : b ∈ E) (e : a.1 = b.1) : a = b := by
  obtain ⟨i, hi, rfl⟩ := List.getElem_of_mem ha
  obtain ⟨j, hj, rfl⟩ := List.getElem_of_mem hb
  have hp := List.pairwise_iff_getElem.1 h
  rcases Nat.lt_trichotomy i j with h1 | h1 | h1
  · have := hp i j hi hj h1
    rw [e, lt_irrefl] at this; cases this
  · subst h1; rfl
  · have := hp j i hj hi h1
    rw [e, lt_irrefl] at this; cases this
theorem rising_ext : ∀ {E F : List Bm}, rising E → rising F → (∀ m, m ∈ E ↔ m ∈ F) → E = F
  | [], [], _, _, _ => rfl
  | [], f :: F, _, _, h => by have := (h f).2 (by simp); cases this
  | e :: E, [], _, _, h => by have := (h e).1 (by simp); cases this
  | e :: E, f :: F, hE, hF, h => by
    obtain ⟨hE1, hE2⟩ := List.pairwise_cons.1 hE
    obtain ⟨hF1, hF2⟩ := List.pairwise_cons.1 hF
    have hef : e = f := by
      rcases List.mem_cons.1 ((h e).1 (by simp)) with a | a
      · exact a
      · rcases List.mem_cons.1 ((h f).2 (by simp)) with b | b
        · exact b.symm
        · have h1 := hF1 e a
          have h2 := hE1 f b
          rw [lt_asymm h1] at h2; cases h2
    subst hef
    have : E = F := rising_ext hE2 hF2 fun m => by
      constructor
      · intro hm
        rcases List.mem_cons.1 ((h m).1 (List.mem_cons_of_mem _ hm)) with a | a
        · subst a; have := hE1 m hm; rw [lt_irrefl] at this; cases this
        · exact a
      · intro hm
        rcases List.mem_cons.1 ((h m).2 (List.mem_cons_of_mem _ hm)) with a | a
        · subst a; have := hF1 m hm; rw [lt_irrefl] at this; cases this
        · exact a
    rw [this]
theorem ver_same {a b : Bm} (ha : mErr a = 0) (hb : mErr b = 0) (e : a.1 = b.1) (h1 : ordV (vb a) (vb b) ≤ 0) (h2 : ordV (vb b) (vb a) ≤ 0) : a = b := by
  have h0 : ordV (vb a) (vb b) = 0 := by rw [ordV_swap (vb a) (vb b)] at h2; omega
  have := (ordV_zero (mErr_zero ha).2 (mErr_zero hb).2).1 h0
  exact Prod.ext e (str_ext this)
theorem Jn.one {D D' E F : List Bm} (hE : Jn D E) (hF : Jn D' F) (h : ∀ m, mErr m = 0 → (m ∈ D ↔ m ∈ D')) : E = F := by
  refine rising_ext hE.ri hF.ri fun m => ?_
  have go : ∀ {D D' E F : List Bm}, Jn D E → Jn D' F → (∀ m, mErr m = 0 → (m ∈ D ↔ m ∈ D')) → ∀ m, m ∈ E → m ∈ F := by
    intro D D' E F hE hF h m hm
    obtain ⟨h1, h2⟩ := hE.sub m hm
    obtain ⟨f, hf, e1, h3⟩ := hF.top m ((h m h2).1 h1) h2
    obtain ⟨h4, h5⟩ := hF.sub f hf
    obtain ⟨g, hg, e2, h6⟩ := hE.top f ((h f h5).2 h4) h5
    have hgm : g = m := rising_same hE.ri hg hm (e2.trans e1)
    subst hgm
    rw [ver_same h2 h5 e1.symm h3 h6]; exact hf
  exact ⟨go hE hF h m, go hF hE (fun m hm => (h m hm).symm) m⟩
end Ve
end Go.Proofs.YtpafkniapacfdaaGreatDoor


namespace Go.Proofs.YtpafkniapacfdaaGreatDoor
open Go.RowKit Go.Maps
namespace Ve
set_option maxHeartbeats 1000000 in
theorem faulted3_any (A : Nat → Addr) (x : Value) (r : Nat × Option Nat) (w : World) (S : Er.Sen w A) (h : ErrAt w A x r.1 r.2) (hc : r.1 ≤ 10) :
    Calls Tryz.prog 15 #[x, faultV r] w fun e w' => e = .returned (.bool true) ∧ Below w.heap.size w w' := by
  obtain ⟨c, o⟩ := r
  have HB0 := hid ((Below.refl w.heap.size w).alloc (Nat.le_refl _) (.cells #[.int .i64 (c : Nat), .int .i64 (atOf o)] 47))
  have HC := hid (code_at2 A x c o _ (S.below HB0.out) (h.below HB0.out) hc)
  unfold faultV
  simp only
  generalize atOf o = y at *
  generalize (c : Int) = z at *
  have e1 : (z == z) = true := beq_self_eq_true z
  have e2 : (y == y) = true := beq_self_eq_true y
  clear S h hc
  go_enter Tryz.func15, Tryz.ntmps15
  go_wp2_with fail
  refine HC.out.mono ?_
  rintro e w1 ⟨rfl, hb⟩
  obtain ⟨⟨r0, r1⟩, rz⟩ := res2 (hb.mono (by simp))
  have HB := hid (HB0.out.trans (hb.mono HB0.out.size))
  clear hb
  cases hz : (z == 0)
  all_goals
    go_wp2_with fail
    go_ret
    exact ⟨rfl, HB.out⟩
end Ve
end Go.Proofs.YtpafkniapacfdaaGreatDoor


namespace Go.Proofs.YtpafkniapacfdaaGreatDoor
open Go.RowKit Go.Maps
namespace Ve
theorem MsAt.cells {w : World} {a : Option Addr} {n c : Nat} {L : List Bm} (h : MsAt w (.slice a n c) L) {k : Nat} (hk : k < L.length) : ∃ b o, a = some ⟨b, o, none⟩ ∧ w.cell? ⟨b, o + k * 2, none⟩ = some (.string L[k].1) ∧ w.cell? ⟨b, o + k * 2 + 1, none⟩ = some (.string L[k].2) := by
  obtain ⟨a', c', e, _, h⟩ := h
  injection e with e1 e2 e3
  subst e1
  obtain ⟨b, o, e4, h4⟩ := h (by intro h0; rw [h0] at hk; simp at hk)
  exact ⟨b, o, e4, h4 k hk⟩
theorem es_cells {W : World} {a : Option Addr} {n c : Nat} {Q : List Raw} (h : EsAt W (.slice a n c) Q) {k : Nat} (hk : k < Q.length) : ∃ b o, a = some ⟨b, o, none⟩ ∧ W.cell? ⟨b, o + k * 5 + 2, none⟩ = some Q[k].2.1 := by
  obtain ⟨a', c', e, _, _, h⟩ := h
  injection e with e1 e2 e3
  subst e1
  obtain ⟨b', o', e4, h4⟩ := h (by intro h0; rw [h0] at hk; simp at hk)
  exact ⟨b', o', e4, (h4 k hk).2.2.1⟩
end Ve
end Go.Proofs.YtpafkniapacfdaaGreatDoor


namespace Go.Proofs.YtpafkniapacfdaaGreatDoor
open Go.RowKit Go.Maps
namespace Ve
theorem es_all {W : World} {b o n c : Nat} {Q : List Raw} (h : EsAt W (.slice (some ⟨b, o, none⟩) n c) Q) {k : Nat} (hk : k < Q.length) : slR Q[k] ∧ W.cell? ⟨b, o + k * 5, none⟩ = some (.string Q[k].1.1) ∧ W.cell? ⟨b, o + k * 5 + 1, none⟩ = some (.string Q[k].1.2) ∧ W.cell? ⟨b, o + k * 5 + 2, none⟩ = some Q[k].2.1 ∧ W.cell? ⟨b, o + k * 5 + 3, none⟩ = some Q[k].2.2.1 ∧ W.cell? ⟨b, o + k * 5 + 4, none⟩ = some (.bool Q[k].2.2.2) := by
  obtain ⟨a', c', e, _, hs, h⟩ := h
  injection e with e1 e2 e3
  subst e1
  obtain ⟨b', o', e4, h4⟩ := h (by intro h0; rw [h0] at hk; simp at hk)
  injection e4 with e4
  injection e4 with e5 e6
  subst e5 e6
  exact ⟨hs _ (List.getElem_mem hk), h4 k hk⟩
theorem pk_rise {Z : List (List UInt8)} (h : ¬ 10 < Z.length) (h1 : Z.any noPk = false) (h2 : rsT Z) : packErr Z = 0 := pk_ok h h1 ((ris_iff Z).2 h2)
end Ve
end Go.Proofs.YtpafkniapacfdaaGreatDoor
