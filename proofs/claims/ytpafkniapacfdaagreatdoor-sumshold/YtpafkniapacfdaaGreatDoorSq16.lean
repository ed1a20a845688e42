
import Derived.Test.YtpafkniapacfdaaGreatDoorSq15
import Derived.Shelf.SlSortCmp.WholeK
import Derived.Test.YtpafkniapacfdaaGreatDoorSq14
import Derived.Test.YtpafkniapacfdaaGreatDoorSq13
import Derived.Deep.AppendLies
namespace Go.Proofs.YtpafkniapacfdaaGreatDoor
open Go.RowKit
namespace Ve
end Ve
end Go.Proofs.YtpafkniapacfdaaGreatDoor


namespace Go.Proofs.YtpafkniapacfdaaGreatDoor
namespace Ve
theorem mem_cut (c x : UInt8) : ∀ l : List UInt8, x ∈ l → x = c ∨ ∃ p, p ∈ cutAt c l ∧ x ∈ p
  | [], h => by cases h
  | b :: l, h => by
    obtain ⟨y, r, e⟩ : ∃ y r, cutAt c l = y :: r := by
      cases e : cutAt c l with
      | nil => exact absurd e (cutAt_ne c l)
      | cons y r => exact ⟨y, r, rfl⟩
    unfold cutAt
    by_cases hb : b = c
    · rw [if_pos hb]
      rcases List.mem_cons.1 h with h | h
      · exact Or.inl (h.trans hb)
      · rcases mem_cut c x l h with h | ⟨p, hp, hx⟩
        · exact Or.inl h
        · exact Or.inr ⟨p, List.mem_cons_of_mem _ hp, hx⟩
    · rw [if_neg hb, e]
      rcases List.mem_cons.1 h with h | h
      · exact Or.inr ⟨b :: y, by simp [ahead], by simp [h]⟩
      · rcases mem_cut c x l h with h | ⟨p, hp, hx⟩
        · exact Or.inl h
        · rw [e] at hp
          rcases List.mem_cons.1 hp with hp | hp
          · exact Or.inr ⟨b :: y, by simp [ahead], by rw [← hp]; exact List.mem_cons_of_mem _ hx⟩
          · exact Or.inr ⟨p, by simp [ahead, hp], hx⟩
theorem mem_one {c x : UInt8} {l : List UInt8} (h : x ∈ l) : x = c ∨ x ∈ (one c l).1 ∨ ((one c l).2.2 = true ∧ x ∈ (one c l).2.1) := by
  cases e : (one c l).2.2
  · rw [one_none e]; exact Or.inr (Or.inl h)
  · have h2 := h
    rw [one_back e] at h2
    rcases List.mem_append.1 h2 with h3 | h3
    · exact Or.inr (Or.inl h3)
    · rcases List.mem_cons.1 h3 with h4 | h4
      · exact Or.inl h4
      · exact Or.inr (Or.inr ⟨rfl, h4⟩)
theorem path_no {l : List UInt8} {c : UInt8} (h : pathErr l = 0) (hc : el c = false) (h47 : c ≠ 47) : c ∉ l := by
  intro hx
  have hb : badE l = false := by
    cases e : badE l
    · rfl
    · unfold pathErr at h; rw [e] at h; simp at h
  rcases mem_cut 47 c l hx with h | ⟨p, hp, hx⟩
  · exact h47 h
  · have h1 := List.any_eq_false.1 hb p hp
    have ok : elemOk p = true := by simpa using h1
    unfold elemOk at ok
    simp only [Bool.and_eq_true] at ok
    have h2 := List.all_eq_true.1 ok.2.2 c hx
    rw [hc] at h2; cases h2
theorem ver_whole {l : List UInt8} (h : verErr l = 0) : marked l = true ∧ numsErr (coreOf l) = 0 ∧ pre (preOf l) = 0 := by
  unfold verErr at h
  by_cases hc : marked l = false ∨ (coreOf l).length ≠ 3
  · rw [if_pos hc] at h; omega
  rw [if_neg hc] at h
  have hm : marked l = true := by
    cases e : marked l
    · exact absurd (Or.inl e) hc
    · rfl
  refine ⟨hm, ?_⟩
  cases e : hasPre l
  · rw [e] at h
    exact ⟨h, by unfold preOf; rw [e]; rfl⟩
  · rw [e] at h
    have h' : worse (numsErr (coreOf l)) (pre (preOf l)) = 0 := h
    unfold worse at h'
    by_cases q : numsErr (coreOf l) = 1 ∨ pre (preOf l) = 0
    · rw [if_pos q] at h'
      refine ⟨h', ?_⟩
      rcases q with q | q
      · omega
      · exact q
    · rw [if_neg q] at h'; exact absurd (Or.inr h') q
theorem ver_no {l : List UInt8} {c : UInt8} (h : verErr l = 0) (hp : par c = false) (hd : dig c = false) (h1 : c ≠ 118) (h2 : c ≠ 46) (h3 : c ≠ 45) : c ∉ l := by
  intro hx
  obtain ⟨hm, hn, hpr⟩ := ver_whole h
  have hr : c ∈ restOf l := by
    rw [rest_drop hm]
    cases l with
    | nil => cases hx
    | cons b r =>
      have hb : b = 118 := by simpa [marked] using hm
      rcases List.mem_cons.1 hx with e | e
      · exact absurd (e.trans hb) h1
      · simpa using e
  rcases mem_one (c := 45) hr with e | e | ⟨e0, e⟩
  · exact h3 e
  · rcases mem_cut 46 c _ e with e | ⟨p, hp1, hx1⟩
    · exact h2 e
    · have h4 := (num0 (ncode0 hn p hp1)).2.2.2
      have h5 := List.all_eq_true.1 h4 c hx1
      rw [hd] at h5; cases h5
  · rcases mem_cut 46 c _ e with e | ⟨p, hp1, hx1⟩
    · exact h2 e
    · have hpo : preOf l = cutAt 46 (one 45 (restOf l)).2.1 := by unfold preOf; rw [if_pos (show hasPre l = true from e0)]
      rw [← hpo] at hp1
      have h4 := pre_parts hpr p hp1
      unfold part at h4
      split at h4
      · cases h4
      · rename_i hn1
        have h6 : allPar p = true := by
          cases e : allPar p
          · exact absurd (Or.inr (Or.inr e)) hn1
          · rfl
        have h5 := List.all_eq_true.1 h6 c hx1
        rw [hp] at h5; cases h5
end Ve
end Go.Proofs.YtpafkniapacfdaaGreatDoor


namespace Go.Proofs.YtpafkniapacfdaaGreatDoor
open Go.RowKit
namespace Ve
end Ve
end Go.Proofs.YtpafkniapacfdaaGreatDoor


namespace Go.Proofs.YtpafkniapacfdaaGreatDoor
open Go.RowKit
namespace Ve
theorem below_drawn_of {B : Nat} {a w : World} (h : Below B a w) (q : Nat) : Below B a (w.drewN q) := ⟨h.os, h.tape, h.output, h.size, h.block⟩
def ErrAt (W : World) (A : Nat → Addr) (v : Value) (c : Nat) (o : Option Nat) : Prop := match o with
  | none => v = errA A c
  | some i => c ≠ 0 ∧ ∃ b, v = .iface 115 (.pointer (some ⟨b, 0, none⟩)) ∧ W.cell? ⟨b, 0, none⟩ = some (.int .i64 i) ∧ W.cell? ⟨b, 1, none⟩ = some (errA A c)
theorem ErrAt.below {W W' : World} {A : Nat → Addr} {v : Value} {c : Nat} {o : Option Nat} (h : ErrAt W A v c o) (hb : Below W.heap.size W W') : ErrAt W' A v c o := by
  cases o with
  | none => exact h
  | some i =>
    obtain ⟨h0, b, h1, h2, h3⟩ := h
    exact ⟨h0, b, h1, cell_below hb h2, cell_below hb h3⟩
def codeE (E : Nat → Nat) (n : Nat) : Nat := match fstE E n with
  | none => 0
  | some i => E i
theorem codeE_none {E : Nat → Nat} {n : Nat} (h : fstE E n = none) : codeE E n = 0 := by unfold codeE; rw [h]
theorem codeE_some {E : Nat → Nat} {n i : Nat} (h : fstE E n = some i) : codeE E n = E i := by unfold codeE; rw [h]
theorem errA_if (A : Nat → Addr) {c : Nat} (h : c ≠ 0) : errA A c = .iface 291 (.pointer (some (A (c - 1)))) := by unfold errA; rw [if_neg h]
theorem fault_at {w1 : World} {A : Nat → Addr} {i c : Nat} (hc : c ≠ 0) (T : TypeId) : ErrAt (w1.alloc (.cells #[.int .i64 i, .iface 291 (.pointer (some (A (c - 1))))] T)) A (.iface 115 (.pointer (some ⟨w1.heap.size, 0, none⟩))) c (some i) :=
  ⟨hc, w1.heap.size, rfl, by simp, by rw [errA_if A hc]; simp⟩
set_option maxHeartbeats 1000000 in
theorem first_mods (K : Nat) (cb : Array Value) (E : Nat → Nat) (L : List Bm) (b o c : Nat) (A : Nat → Addr) (w : World) (eg : ∀ args w, (callFunc K args).run Tryz.prog w = .ok (.enter K args) w) (hL : L.length ≤ 1000000)
    (hc : ∀ j (h : j < L.length), w.cell? ⟨b, o + j * 2, none⟩ = some (.string L[j].1) ∧ w.cell? ⟨b, o + j * 2 + 1, none⟩ = some (.string L[j].2))
    (hK : ∀ i (h : i < L.length) W, Below w.heap.size w W → Calls Tryz.prog K (#[.int .i64 (i : Int), .agg #[.string L[i].1, .string L[i].2]] ++ cb) W fun e w' => e = .returned (errA A (E i)) ∧ Below W.heap.size W w') :
    Calls Tryz.prog 64 #[.slice (some ⟨b, o, none⟩) L.length c, .func (.func K) #[] cb] w fun e w' => ∃ v, e = .returned v ∧ ErrAt w' A v (codeE E L.length) (fstE E L.length) ∧ Below w.heap.size w w' := by
  have HK := hid hK
  have HC := hid hc
  clear hK hc
  go_enter Tryz.func64, Tryz.ntmps64
  go_wp2_with fail
  go_loopw [10] (fun i wr => ∃ k : Nat, k ≤ L.length ∧ i = .int .i64 k ∧ Hid (∀ j, j < k → E j = 0) ∧ Hid (Below w.heap.size w wr)) (fun i _ => L.length - (intOf i).toNat)
  case atStart => exact ⟨0, Nat.zero_le _, rfl, hid (fun j hj => absurd hj (by omega)), hid (Below.refl _ _)⟩
  case round =>
    obtain ⟨k, hk, rfl, HE, HB⟩ := hrel
    by_cases hlt : k < L.length
    · have hx := cell_below HB.out (HC.out k hlt).1
      have hy := cell_below HB.out (HC.out k hlt).2
      have HBa := hid (HB.out.alloc HB.out.size (.cells #[.string L[k].1, .string L[k].2] 42))
      have HP := hid (HK.out k hlt _ HBa.out)
      by_cases h0 : E k = 0
      · rw [h0, errA0] at HP
        go_wp2_with fail
        refine HP.out.mono ?_
        rintro e w1 ⟨rfl, hb1⟩
        have HB1 := hid (HBa.out.trans (hb1.mono HBa.out.size))
        clear hb1
        go_wp2_with fail
        go_roundw
        case rel => exact ⟨k + 1, by omega, by go_num, hid (fun j hj => by
          rcases Nat.lt_or_ge j k with h | h
          · exact HE.out j h
          · have : j = k := by omega
            rw [this]; exact h0), HB1⟩
        case measure => simp [intOf]; omega
      · rw [errA_if A h0] at HP
        have HF := hid (fstE_some HE.out h0 hlt)
        have H0 := hid h0
        clear h0
        go_wp2_with fail
        refine HP.out.mono ?_
        rintro e w1 ⟨rfl, hb1⟩
        have HB1 := hid (HBa.out.trans (hb1.mono HBa.out.size))
        clear hb1
        go_wp2_with fail
        go_ret
        refine ⟨_, rfl, ?_, HB1.out.alloc HB1.out.size _⟩
        rw [codeE_some HF.out, HF.out]
        exact fault_at H0.out _
    · have HF := hid (fstE_none (E := E) (n := L.length) (fun j hj => HE.out j (by omega)))
      go_wp2_with fail
      go_ret
      refine ⟨_, rfl, ?_, HB.out⟩
      rw [codeE_none HF.out, HF.out]
      rfl
theorem first_none (K : Nat) (cb : Array Value) (E : Nat → Nat) (a : Option Addr) (c : Nat) (A : Nat → Addr) (w : World) :
    Calls Tryz.prog 64 #[.slice a 0 c, .func (.func K) #[] cb] w fun e w' => ∃ v, e = .returned v ∧ ErrAt w' A v (codeE E 0) (fstE E 0) ∧ Below w.heap.size w w' := by
  go_enter Tryz.func64, Tryz.ntmps64
  go_wp2_with fail
  go_loopw [10] (fun i wr => i = .int .i64 0 ∧ wr = w) (fun i _ => 0)
  case atStart => exact ⟨rfl, rfl⟩
  case round =>
    obtain ⟨rfl, rfl⟩ := hrel
    go_wp2_with fail
    go_ret
    exact ⟨_, rfl, rfl, Below.refl _ _⟩
theorem first_any (K : Nat) (cb : Array Value) (E : Nat → Nat) (L : List Bm) (v : Value) (A : Nat → Addr) (w : World) (eg : ∀ args w, (callFunc K args).run Tryz.prog w = .ok (.enter K args) w) (hL : L.length ≤ 1000000) (hv : MsAt w v L)
    (hK : ∀ i (h : i < L.length) W, Below w.heap.size w W → Calls Tryz.prog K (#[.int .i64 (i : Int), .agg #[.string L[i].1, .string L[i].2]] ++ cb) W fun e w' => e = .returned (errA A (E i)) ∧ Below W.heap.size W w') :
    Calls Tryz.prog 64 #[v, .func (.func K) #[] cb] w fun e w' => ∃ u, e = .returned u ∧ ErrAt w' A u (codeE E L.length) (fstE E L.length) ∧ Below w.heap.size w w' := by
  obtain ⟨a, c, rfl, _, h⟩ := hv
  cases L with
  | nil => exact first_none K cb E a c A w
  | cons x r =>
    obtain ⟨b, o, rfl, h2⟩ := h (by simp)
    exact first_mods K cb E (x :: r) b o c A w eg hL h2 hK
end Ve
end Go.Proofs.YtpafkniapacfdaaGreatDoor


namespace Go.Proofs.YtpafkniapacfdaaGreatDoor
open Go.RowKit
namespace Ve
def flatM (L : List Bm) : List Value := L.flatMap fun m => [.string m.1, .string m.2]
theorem flatM_len (L : List Bm) : (flatM L).length = L.length * 2 := by
  induction L with
  | nil => rfl
  | cons r R ih =>
    have : flatM (r :: R) = [.string r.1, .string r.2] ++ flatM R := rfl
    rw [this, List.length_append, ih]
    show 2 + R.length * 2 = (R.length + 1) * 2
    omega
theorem flatM_app (D E : List Bm) : flatM (D ++ E) = flatM D ++ flatM E := by simp [flatM]
theorem flatM_get : ∀ (D : List Bm) (j c : Nat) (hj : j < D.length) (_ : c < 2), (flatM D)[j * 2 + c]? = [Value.string D[j].1, Value.string D[j].2][c]?
  | [], _, _, hj, _ => absurd hj (Nat.not_lt_zero _)
  | r :: R, 0, c, _, hc => by
    have : flatM (r :: R) = [.string r.1, .string r.2] ++ flatM R := rfl
    rw [this, List.getElem?_append_left (by show 0 * 2 + c < 2; omega)]
    simp
  | r :: R, j + 1, c, hj, hc => by
    have : flatM (r :: R) = [.string r.1, .string r.2] ++ flatM R := rfl
    rw [this, List.getElem?_append_right (by show 2 ≤ (j + 1) * 2 + c; omega), show (j + 1) * 2 + c - [Value.string r.1, Value.string r.2].length = j * 2 + c by simp; omega]
    exact flatM_get R j c (by simpa using hj) hc
theorem own_ms {w : World} {base : Nat} {e : TypeId} {v : Value} {L : List Bm} (h : w.ownsRow base e 2 v L.length (flatM L)) : MsAt w v L := by
  obtain ⟨_, ⟨hv, hn0⟩ | ⟨g, cap, cur, hv, hg, hblk, hcap, hcm, hcs, hct⟩⟩ := h
  · exact ⟨none, 0, by rw [hv, hn0], by omega, fun hL => absurd (List.length_eq_zero_iff.1 hn0) hL⟩
  · refine ⟨_, cap, hv, hcap, fun _ => ⟨g, 0, rfl, fun j hj => ?_⟩⟩
    have go : ∀ c, c < 2 → w.cell? ⟨g, 0 + j * 2 + c, none⟩ = [Value.string L[j].1, Value.string L[j].2][c]? := fun c hc => by
      have h1 := flatM_get L j c hj hc
      rw [← hct, List.getElem?_take, if_pos (by omega)] at h1
      simp only [World.cell?, hblk]
      rw [← h1]; simp
    exact ⟨by have := go 0 (by omega); simpa using this, by have := go 1 (by omega); simpa using this⟩
theorem own_ne2 {w : World} {B : Nat} {e T : TypeId} {v : Value} {n : Nat} {xs : List Value} {b : Nat} {cs : Array Value} {fr : Nat × Nat} (hown : w.ownsRow B e 2 v n xs) (hb : w.heap[b]? = some (.cells cs T fr)) (hTe : T ≠ e) : v.ownBlock ≠ some b := by
  rcases hown.2 with ⟨rfl, _⟩ | ⟨g, cap, cur, rfl, _, hg, _⟩
  · simp [Value.ownBlock]
  · intro h
    simp only [Value.ownBlock, Option.some.injEq] at h
    subst h
    rw [hg] at hb
    simp only [Option.some.injEq, Obj.cells.injEq] at hb
    exact hTe hb.2.1.symm
theorem keep_set {W : World} {fb o b : Nat} {x : Value} {ob : Obj} (h : W.heap[b]? = some ob) (hne : b ≠ fb) : (W.setCell ⟨fb, o, none⟩ x).heap[b]? = some ob := by
  rw [Below.heap_setCell _ _ _ _ hne]; exact h
theorem set_block {W : World} {fb o : Nat} {cs : Array Value} {T : TypeId} {x : Value} (h : W.heap[fb]? = some (.cells cs T (0, 0))) : (W.setCell ⟨fb, o, none⟩ x).heap[fb]? = some (.cells (cs.setIfInBounds o x) T (0, 0)) := by
  simp [World.setCell, Array.getElem?_modify, h]
theorem owns_set {W : World} {B fb o n : Nat} {e : TypeId} {v x : Value} {xs : List Value} (h : W.ownsRow B e 2 v n xs) (hne : v.ownBlock ≠ some fb) : (W.setCell ⟨fb, o, none⟩ x).ownsRow B e 2 v n xs :=
  h.kept (row := some fb) ⟨rfl, rfl, rfl, by simp [World.setCell], fun k _ hk => Below.heap_setCell _ _ _ _ (fun e => hk (by simp [e]))⟩ (Or.inr hne)
theorem owns_far {W W3 : World} {B n : Nat} {e : TypeId} {v : Value} {xs : List Value} {row : Option Nat} (h : W.ownsRow B e 2 v n xs) (hg : W.grownBy W3 row) (hne : ∀ g, v.ownBlock = some g → row ≠ some g) : W3.ownsRow B e 2 v n xs := by
  obtain ⟨hl, h | ⟨g, cap, cur, e1, e2, e3, e4, e5, e6, e7⟩⟩ := h
  · exact ⟨hl, Or.inl h⟩
  · refine ⟨hl, Or.inr ⟨g, cap, cur, e1, e2, ?_, e4, e5, e6, e7⟩⟩
    rw [hg.block g (lt_of_blk e3) (fun h => hne g (by rw [e1]; rfl) h.symm)]; exact e3
theorem heap_new (w : World) (o : Obj) : (w.alloc o).heap[w.heap.size]? = some o := heap_alloc_new w o
theorem heap_old (w : World) (o : Obj) {b : Nat} {x : Obj} (h : w.heap[b]? = some x) : (w.alloc o).heap[b]? = some x := by
  rw [((Below.refl w.heap.size w).alloc (Nat.le_refl _) o).block b (lt_of_blk h)]; exact h
theorem own_sl {W : World} {B n : Nat} {e : TypeId} {v : Value} {xs : List Value} (h : W.ownsRow B e 2 v n xs) : ∃ a n c, v = .slice a n c := by
  obtain ⟨_, ⟨h, _⟩ | ⟨g, cap, cur, e1, _⟩⟩ := h
  · exact ⟨_, _, _, h⟩
  · exact ⟨_, _, _, e1⟩
theorem ms_flat {w : World} {b o : Nat} {L : List Bm} (hc : ∀ j (h : j < L.length), w.cell? ⟨b, o + j * 2, none⟩ = some (.string L[j].1) ∧ w.cell? ⟨b, o + j * 2 + 1, none⟩ = some (.string L[j].2)) : ∀ j u, (flatM L)[j]? = some u → w.cell? ⟨b, o + j, none⟩ = some u := by
  intro j u hj
  have hl : j < L.length * 2 := by rw [← flatM_len]; exact (List.getElem?_eq_some_iff.1 hj).1
  have h1 := flatM_get L (j / 2) (j % 2) (by omega) (by omega)
  rw [show j / 2 * 2 + j % 2 = j by omega, hj] at h1
  have h2 := hc (j / 2) (by omega)
  rcases Nat.mod_two_eq_zero_or_one j with e | e
  · rw [e] at h1
    have : u = .string L[j / 2].1 := by simpa using h1
    rw [this, ← h2.1]
    congr 2; omega
  · rw [e] at h1
    have : u = .string L[j / 2].2 := by simpa using h1
    rw [this, ← h2.2]
    congr 2; omega
theorem flat_one (L : List Bm) : ∀ u ∈ flatM L, u.oneCell' = true := by
  intro u hu
  obtain ⟨m, _, hm⟩ := List.mem_flatMap.1 hu
  simp at hm
  rcases hm with rfl | rfl <;> rfl
theorem infoMod : (Tryz.prog.info? 42).map (fun i => (i.zero, i.size, i.bytes)) = some (some (.agg #[.string ⟨#[]⟩, .string ⟨#[]⟩]), 2, 32) := by kernel_rfl
end Ve
end Go.Proofs.YtpafkniapacfdaaGreatDoor
