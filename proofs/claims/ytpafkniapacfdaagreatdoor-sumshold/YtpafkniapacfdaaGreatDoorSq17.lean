
import Derived.Test.YtpafkniapacfdaaGreatDoorSq15
import Derived.Test.YtpafkniapacfdaaGreatDoorSq9
import Derived.Test.YtpafkniapacfdaaGreatDoorSq16
import Derived.Test.YtpafkniapacfdaaGreatDoorSq1
namespace Go.Proofs.YtpafkniapacfdaaGreatDoor
open Go.RowKit
namespace Ve
theorem cbt : ∀ (a b c : List UInt8), Lib.compareBytes a b < 0 → Lib.compareBytes b c < 0 → Lib.compareBytes a c < 0 := by
  intro a
  induction a with
  | nil =>
    intro b c h1 h2
    cases c with
    | nil => cases b <;> simp [Lib.compareBytes] at h2
    | cons z c => simp [Lib.compareBytes]
  | cons x a ih =>
    intro b c h1 h2
    cases b with
    | nil => simp [Lib.compareBytes] at h1
    | cons y b =>
      cases c with
      | nil => simp [Lib.compareBytes] at h2
      | cons z c =>
        simp only [Lib.compareBytes] at h1 h2 ⊢
        by_cases e1 : x < y
        · by_cases e2 : y < z
          · rw [if_pos (UInt8.lt_trans e1 e2)]; omega
          · rw [if_neg e2] at h2
            by_cases e3 : z < y
            · rw [if_pos e3] at h2; omega
            · have : y = z := UInt8.le_antisymm (UInt8.not_lt.1 e3) (UInt8.not_lt.1 e2)
              subst this
              rw [if_pos e1]; omega
        · rw [if_neg e1] at h1
          by_cases e2 : y < x
          · rw [if_pos e2] at h1; omega
          · have : x = y := UInt8.le_antisymm (UInt8.not_lt.1 e2) (UInt8.not_lt.1 e1)
            subst this
            rw [if_neg e2] at h1
            by_cases e3 : x < z
            · rw [if_pos e3]; omega
            · rw [if_neg e3] at h2 ⊢
              by_cases e4 : z < x
              · rw [if_pos e4] at h2; omega
              · rw [if_neg e4] at h2 ⊢
                exact ih b c h1 h2
def lt (a b : ByteArray) : Bool := decide (Lib.compareBytes a.data.toList b.data.toList < 0)
theorem lt_trans {a b c : ByteArray} (h1 : lt a b = true) (h2 : lt b c = true) : lt a c = true := decide_eq_true (cbt _ _ _ (of_decide_eq_true h1) (of_decide_eq_true h2))
theorem lt_irrefl (a : ByteArray) : lt a a = false := by
  unfold lt; rw [(cb_zero _ _).2 rfl]; rfl
theorem lt_asymm {a b : ByteArray} (h : lt a b = true) : lt b a = false := by
  cases h2 : lt b a
  · rfl
  · have := lt_trans h h2
    rw [lt_irrefl] at this; cases this
theorem lt_three (a b : ByteArray) : lt a b = true ∨ a = b ∨ lt b a = true := by
  rcases cb_range a.data.toList b.data.toList with h | h | h
  · exact Or.inl (decide_eq_true (by omega))
  · exact Or.inr (Or.inl (str_ext ((cb_zero _ _).1 h)))
  · refine Or.inr (Or.inr (decide_eq_true ?_))
    rw [cb_swap]; omega
def rising (R : List Bm) : Prop := R.Pairwise (fun a b => lt a.1 b.1 = true)
end Ve
end Go.Proofs.YtpafkniapacfdaaGreatDoor


namespace Go.Proofs.YtpafkniapacfdaaGreatDoor
open Go.RowKit
namespace Ve
end Ve
end Go.Proofs.YtpafkniapacfdaaGreatDoor


namespace Go.Proofs.YtpafkniapacfdaaGreatDoor
open Go.RowKit
namespace Ve
end Ve
end Go.Proofs.YtpafkniapacfdaaGreatDoor


namespace Go.Proofs.YtpafkniapacfdaaGreatDoor
open Go.RowKit
namespace Ve
abbrev Raw := Bm × Value × Value × Bool
def rawV (r : Raw) : Value := .agg #[.string r.1.1, .string r.1.2, r.2.1, r.2.2.1, .bool r.2.2.2]
def slR (r : Raw) : Prop := (∃ a n c, r.2.1 = .slice a n c) ∧ ∃ a n c, r.2.2.1 = .slice a n c
def EsAt (w : World) (v : Value) (L : List Raw) : Prop :=
  ∃ (a : Option Addr) (c : Nat), v = .slice a L.length c ∧ L.length ≤ c ∧ (∀ r, r ∈ L → slR r) ∧ (L ≠ [] → ∃ b o, a = some ⟨b, o, none⟩ ∧ ∀ j (h : j < L.length), w.cell? ⟨b, o + j * 5, none⟩ = some (.string L[j].1.1) ∧ w.cell? ⟨b, o + j * 5 + 1, none⟩ = some (.string L[j].1.2) ∧
    w.cell? ⟨b, o + j * 5 + 2, none⟩ = some L[j].2.1 ∧ w.cell? ⟨b, o + j * 5 + 3, none⟩ = some L[j].2.2.1 ∧ w.cell? ⟨b, o + j * 5 + 4, none⟩ = some (.bool L[j].2.2.2))
theorem EsAt.below {w w' : World} {v : Value} {L : List Raw} (h : EsAt w v L) (hb : Below w.heap.size w w') : EsAt w' v L := by
  obtain ⟨a, c, e, hc, hs, h⟩ := h
  refine ⟨a, c, e, hc, hs, fun hL => ?_⟩
  obtain ⟨b, o, e2, h2⟩ := h hL
  exact ⟨b, o, e2, fun j hj => ⟨cell_below hb (h2 j hj).1, cell_below hb (h2 j hj).2.1, cell_below hb (h2 j hj).2.2.1, cell_below hb (h2 j hj).2.2.2.1, cell_below hb (h2 j hj).2.2.2.2⟩⟩
def idxE (P : Raw → Bool) (L : List Raw) (i : Nat) : Nat := match L[i]? with
  | some r => if P r then 1 else 0
  | none => 0
def idxOf (P : Raw → Bool) (L : List Raw) : Int := match fstE (idxE P L) L.length with
  | some k => (k : Int)
  | none => -1
theorem idxE_at {P : Raw → Bool} {L : List Raw} {i : Nat} (h : i < L.length) : idxE P L i = if P L[i] then 1 else 0 := by unfold idxE; rw [List.getElem?_eq_getElem h]
theorem idxE_zero {P : Raw → Bool} {L : List Raw} {n : Nat} (hn : n ≤ L.length) (h : ∀ j (hj : j < L.length), j < n → P L[j] = false) : ∀ j, j < n → idxE P L j = 0 := fun j hj => by
  rw [idxE_at (by omega), h j (by omega) hj]; rfl
theorem idx_hit {P : Raw → Bool} {L : List Raw} {k : Nat} (hk : k < L.length) (h0 : ∀ j (hj : j < L.length), j < k → P L[j] = false) (h : P L[k] = true) : idxOf P L = (k : Int) := by
  unfold idxOf
  rw [fstE_some (idxE_zero (by omega) h0) (by rw [idxE_at hk, if_pos h]; decide) hk]
theorem idx_next {P : Raw → Bool} {L : List Raw} {k : Nat} (hk : k < L.length) (h0 : ∀ j (hj : j < L.length), j < k → P L[j] = false) (h : P L[k] = false) : ∀ j (hj : j < L.length), j < k + 1 → P L[j] = false := fun j hj hjk => by
  rcases Nat.lt_or_ge j k with h1 | h1
  · exact h0 j hj h1
  · have : j = k := by omega
    subst this; exact h
set_option maxHeartbeats 2000000 in
set_option maxRecDepth 100000 in
theorem idxF_some (K : Nat) (cb : Array Value) (P : Raw → Bool) (L : List Raw) (b o c : Nat) (w : World) (eg : ∀ args w, (callFunc K args).run Tryz.prog w = .ok (.enter K args) w) (hL : L.length ≤ 1000000) (hs : ∀ r, r ∈ L → slR r)
    (hc : ∀ j (h : j < L.length), w.cell? ⟨b, o + j * 5, none⟩ = some (.string L[j].1.1) ∧ w.cell? ⟨b, o + j * 5 + 1, none⟩ = some (.string L[j].1.2) ∧ w.cell? ⟨b, o + j * 5 + 2, none⟩ = some L[j].2.1 ∧ w.cell? ⟨b, o + j * 5 + 3, none⟩ = some L[j].2.2.1 ∧ w.cell? ⟨b, o + j * 5 + 4, none⟩ = some (.bool L[j].2.2.2))
    (hK : ∀ i (h : i < L.length) W, Below w.heap.size w W → Calls Tryz.prog K (#[rawV L[i]] ++ cb) W fun e w' => e = .returned (.bool (P L[i])) ∧ Below W.heap.size W w') :
    Calls Tryz.prog 66 #[.slice (some ⟨b, o, none⟩) L.length c, .func (.func K) #[] cb] w fun e w' => e = .returned (.int .i64 (idxOf P L)) ∧ Below w.heap.size w w' := by
  have HK := hid hK
  have HC := hid hc
  have HSL := hid hs
  generalize hr : idxOf P L = r
  have HR := hid hr
  clear hK hc hr hs
  go_enter Tryz.func66, Tryz.ntmps66
  go_wp2_with fail
  go_loopw [8] (fun i wr => ∃ k : Nat, k ≤ L.length ∧ i = .int .i64 k ∧ Hid (∀ j (h : j < L.length), j < k → P L[j] = false) ∧ Hid (Below w.heap.size w wr)) (fun i _ => L.length - (intOf i).toNat)
  case atStart => exact ⟨0, Nat.zero_le _, rfl, hid (fun j _ hj => absurd hj (by omega)), hid (Below.refl _ _)⟩
  case round =>
    obtain ⟨k, hk, rfl, HA, HB⟩ := hrel
    by_cases hlt : k < L.length
    · have HP := hid (HK.out k hlt wr HB.out)
      obtain ⟨y0, y1, y2, y3, y4⟩ := HC.out k hlt
      have x0 := cell_below HB.out y0
      have x1 := cell_below HB.out y1
      have x2 := cell_below HB.out y2
      have x3 := cell_below HB.out y3
      have x4 := cell_below HB.out y4
      obtain ⟨⟨ra, rn, rc, hrv⟩, pa, pn, pc, hpv⟩ := HSL.out L[k] (List.getElem_mem hlt)
      have hkI : (k : Int) < (L.length : Int) := by omega
      have HLT := hid hlt
      have HF := hid (fun h => idx_hit hlt HA.out h)
      have HN := hid (fun h => idx_next hlt HA.out h)
      rw [hrv] at x2
      rw [hpv] at x3
      unfold rawV at HP
      rw [hrv, hpv] at HP
      clear y0 y1 y2 y3 y4
      generalize hx : L[k] = x at *
      cases hp : P x
      · rw [hp] at HP
        have HN2 := hid (HN.out hp)
        clear hp hx hrv hpv hlt
        go_wp2_with fail
        refine HP.out.mono ?_
        rintro e w1 ⟨rfl, hb⟩
        have HB1 := hid (HB.out.trans (hb.mono HB.out.size))
        clear hb
        go_wp2_with fail
        go_roundw
        case rel => exact ⟨k + 1, by have := HLT.out; omega, by go_num, HN2, HB1⟩
        case measure => have := HLT.out; simp [intOf]; omega
      · rw [hp] at HP
        have HF2 := hid (HF.out hp)
        clear hp hx hrv hpv hlt
        go_wp2_with fail
        refine HP.out.mono ?_
        rintro e w1 ⟨rfl, hb⟩
        have HB1 := hid (HB.out.trans (hb.mono HB.out.size))
        clear hb
        go_wp2_with fail
        go_ret
        exact ⟨by rw [← HR.out, HF2.out]; rfl, HB1.out⟩
    · have HF := hid (show idxOf P L = -1 by unfold idxOf; rw [fstE_none (idxE_zero (Nat.le_refl _) (fun j hj _ => HA.out j hj (by omega)))])
      go_wp2_with fail
      go_ret
      exact ⟨by rw [← HR.out, HF.out]; rfl, HB.out⟩
theorem idxF_none (K : Nat) (cb : Array Value) (a : Option Addr) (c : Nat) (w : World) :
    Calls Tryz.prog 66 #[.slice a 0 c, .func (.func K) #[] cb] w fun e w' => e = .returned (.int .i64 (-1)) ∧ Below w.heap.size w w' := by
  go_enter Tryz.func66, Tryz.ntmps66
  go_wp2_with fail
  go_loopw [8] (fun i wr => i = .int .i64 0 ∧ wr = w) (fun i _ => 0)
  case atStart => exact ⟨rfl, rfl⟩
  case round =>
    obtain ⟨rfl, rfl⟩ := hrel
    go_wp2_with fail
    go_ret
    exact ⟨rfl, Below.refl _ _⟩
theorem idxF_any (K : Nat) (cb : Array Value) (P : Raw → Bool) (L : List Raw) (v : Value) (w : World) (eg : ∀ args w, (callFunc K args).run Tryz.prog w = .ok (.enter K args) w) (hL : L.length ≤ 1000000) (hv : EsAt w v L)
    (hK : ∀ i (h : i < L.length) W, Below w.heap.size w W → Calls Tryz.prog K (#[rawV L[i]] ++ cb) W fun e w' => e = .returned (.bool (P L[i])) ∧ Below W.heap.size W w') :
    Calls Tryz.prog 66 #[v, .func (.func K) #[] cb] w fun e w' => e = .returned (.int .i64 (idxOf P L)) ∧ Below w.heap.size w w' := by
  obtain ⟨a, c, rfl, _, hs, h⟩ := hv
  cases L with
  | nil => exact idxF_none K cb a c w
  | cons x r =>
    obtain ⟨b, o, rfl, h2⟩ := h (by simp)
    exact idxF_some K cb P (x :: r) b o c w eg hL hs h2 hK
def isM (m : Bm) (r : Raw) : Bool := decide (r.1.1 = m.1 ∧ r.1.2 = m.2)
set_option maxHeartbeats 1000000 in
theorem findK_any (m : Bm) (r : Raw) (hs : slR r) (b : Nat) (W : World) (h0 : W.cell? ⟨b, 0, none⟩ = some (.string m.1)) (h1 : W.cell? ⟨b, 1, none⟩ = some (.string m.2)) :
    Calls Tryz.prog 67 (#[rawV r] ++ #[.pointer (some ⟨b, 0, none⟩)]) W fun e w' => e = .returned (.bool (isM m r)) ∧ Below W.heap.size W w' := by
  obtain ⟨⟨p, v⟩, rv, pv, bk⟩ := r
  obtain ⟨⟨ra, rn, rc, rfl⟩, pa, pn, pc, rfl⟩ := hs
  have heq := fun W => modEql p v m.1 m.2 W
  have hgd := modGuard
  show Calls Tryz.prog 67 #[.agg #[.string p, .string v, .slice ra rn rc, .slice pa pn pc, .bool bk], .pointer (some ⟨b, 0, none⟩)] W _
  unfold isM
  have HB0 := hid ((Below.refl W.heap.size W).alloc (Nat.le_refl _) (.cells #[.string p, .string v, .slice ra rn rc, .slice pa pn pc, .bool bk] 55))
  have c0 := cell_below HB0.out h0
  have c1 := cell_below HB0.out h1
  have hbb : ¬ b = W.heap.size := by have := lt_of_cell h0; simp at this; omega
  have hbb2 : ¬ W.heap.size = b := fun h => hbb h.symm
  generalize decide (p = m.1 ∧ v = m.2) = z at *
  go_enter Tryz.func67, Tryz.ntmps67
  go_wp2_with fail
  go_ret
  exact ⟨rfl, HB0.out⟩
set_option maxHeartbeats 1000000 in
theorem find_any (L : List Raw) (m : Bm) (v : Value) (w : World) (hL : L.length ≤ 1000000) (hv : EsAt w v L) :
    Calls Tryz.prog 30 #[v, .agg #[.string m.1, .string m.2]] w fun e w' => e = .returned (.int .i64 (idxOf (isM m) L)) ∧ Below w.heap.size w w' := by
  obtain ⟨a, c, hv1, _, hs, _⟩ := id hv
  have HB0 := hid ((Below.refl w.heap.size w).alloc (Nat.le_refl _) (.cells #[.string m.1, .string m.2] 42))
  have eg : ∀ args w, (callFunc 67 args).run Tryz.prog w = .ok (.enter 67 args) w := enters_of Tryz.func67 (by kernel_rfl) rfl
  have HF := hid (idxF_any 67 #[.pointer (some ⟨w.heap.size, 0, none⟩)] (isM m) L v (w.alloc (.cells #[.string m.1, .string m.2] 42)) eg hL (hv.below HB0.out) (fun i hi W hW =>
    findK_any m L[i] (hs L[i] (List.getElem_mem hi)) w.heap.size W (cell_below hW (by simp)) (cell_below hW (by simp))))
  subst hv1
  clear hv hs eg
  go_enter Tryz.func30, Tryz.ntmps30
  go_wp2_with fail
  refine HF.out.mono ?_
  rintro e w1 ⟨rfl, hb⟩
  have HB := hid (HB0.out.trans (hb.mono HB0.out.size))
  clear hb
  go_wp2_with fail
  go_ret
  exact ⟨rfl, HB.out⟩
end Ve
end Go.Proofs.YtpafkniapacfdaaGreatDoor


namespace Go.Proofs.YtpafkniapacfdaaGreatDoor
open Go.RowKit
namespace Ve
def okM (m : Bm) : Bool := decide (m.1.size ≤ 70) && decide (m.2.size ≤ 60)
def okL (L : List Bm) : Bool := decide (L.length ≤ 25) && L.all okM
theorem okL_iff {L : List Bm} (h : okL L = true) : L.length ≤ 25 ∧ ∀ m, m ∈ L → m.1.size ≤ 70 ∧ m.2.size ≤ 60 := by
  unfold okL at h
  rw [Bool.and_eq_true] at h
  refine ⟨of_decide_eq_true h.1, fun m hm => ?_⟩
  have := List.all_eq_true.1 h.2 m hm
  unfold okM at this
  rw [Bool.and_eq_true] at this
  exact ⟨of_decide_eq_true this.1, of_decide_eq_true this.2⟩
theorem all_take_next {L : List Bm} {k : Nat} (hk : k < L.length) (h : (L.take k).all okM = true) (hm : okM L[k] = true) : (L.take (k + 1)).all okM = true := by
  rw [List.take_succ_eq_append_getElem hk, List.all_append, h]
  simp [hm]
theorem all_not {L : List Bm} {k : Nat} (hk : k < L.length) (hm : okM L[k] = false) : L.all okM = false := by
  cases e : L.all okM
  · rfl
  · have := List.all_eq_true.1 e L[k] (List.getElem_mem hk)
    rw [hm] at this; cases this
set_option maxHeartbeats 1000000 in
theorem long_some (L : List Bm) (b o c : Nat) (w : World) (hn : L.length ≤ 25)
    (hc : ∀ j (h : j < L.length), w.cell? ⟨b, o + j * 2, none⟩ = some (.string L[j].1) ∧ w.cell? ⟨b, o + j * 2 + 1, none⟩ = some (.string L[j].2)) :
    Calls Tryz.prog 7 #[.slice (some ⟨b, o, none⟩) L.length c, .int .i64 25] w fun e w' => e = .returned (.int .i64 (if okL L then 0 else 1)) ∧ w' = w := by
  have HC := hid hc
  have HO := hid (show okL L = L.all okM by unfold okL; rw [decide_eq_true hn, Bool.true_and])
  have hn2 : ¬ (25 : Int) < (L.length : Int) := by omega
  generalize hr : (if okL L then (0 : Int) else 1) = r
  have HR := hid hr
  clear hc hr
  go_enter Tryz.func7, Tryz.ntmps7
  go_wp2_with fail
  go_loop [5] (fun i => ∃ k : Nat, k ≤ L.length ∧ i = .int .i64 k ∧ Hid ((L.take k).all okM = true)) (fun i => L.length - (intOf i).toNat)
  case atStart => exact ⟨0, Nat.zero_le _, rfl, hid rfl⟩
  case round =>
    obtain ⟨k, hk, rfl, HA⟩ := hrel
    by_cases hlt : k < L.length
    · have hx := (HC.out k hlt).1
      have hy := (HC.out k hlt).2
      have HN := hid (fun h => all_take_next hlt HA.out h)
      have HX := hid (fun h => all_not hlt h)
      have HLT := hid hlt
      have hkI : (k : Int) < (L.length : Int) := by omega
      generalize L[k] = x at *
      clear hlt
      obtain ⟨p, v⟩ := x
      by_cases h1 : p.size ≤ 70
      · have h1' : ¬ (70 : Int) < (p.size : Int) := by omega
        by_cases h2 : v.size ≤ 60
        · have h2' : ¬ (60 : Int) < (v.size : Int) := by omega
          have HT := hid (HN.out (by unfold okM; rw [decide_eq_true h1, decide_eq_true h2]; rfl))
          go_wp2_with fail
          go_round
          case rel => exact ⟨k + 1, by have := HLT.out; omega, by go_num, HT⟩
          case measure => have := HLT.out; simp [intOf]; omega
        · have h2' : (60 : Int) < (v.size : Int) := by omega
          have HT := hid (HX.out (by unfold okM; rw [decide_eq_true h1, decide_eq_false h2]; rfl))
          go_wp2_with fail
          go_ret
          exact ⟨by rw [← HR.out, HO.out, HT.out]; rfl, rfl⟩
      · have h1' : (70 : Int) < (p.size : Int) := by omega
        have HT := hid (HX.out (by unfold okM; rw [decide_eq_false h1]; rfl))
        go_wp2_with fail
        go_ret
        exact ⟨by rw [← HR.out, HO.out, HT.out]; rfl, rfl⟩
    · have HT := hid (show L.all okM = true by have := HA.out; rw [List.take_of_length_le (by omega)] at this; exact this)
      go_wp2_with fail
      go_ret
      exact ⟨by rw [← HR.out, HO.out, HT.out]; rfl, rfl⟩
theorem long_none (a : Option Addr) (c : Nat) (w : World) : Calls Tryz.prog 7 #[.slice a 0 c, .int .i64 25] w fun e w' => e = .returned (.int .i64 0) ∧ w' = w := by
  go_enter Tryz.func7, Tryz.ntmps7
  go_wp2_with fail
  go_loop [5] (fun i => i = .int .i64 0) (fun i => 0)
  case atStart => exact rfl
  case round =>
    obtain rfl := hrel
    go_wp2_with fail
    go_ret
    exact ⟨rfl, rfl⟩
theorem long_many (a : Option Addr) (n c : Nat) (w : World) (hn : 25 < n) : Calls Tryz.prog 7 #[.slice a n c, .int .i64 25] w fun e w' => e = .returned (.int .i64 1) ∧ w' = w := by
  have hn2 : (25 : Int) < (n : Int) := by omega
  go_enter Tryz.func7, Tryz.ntmps7
  go_wp2_with fail
  go_ret
  exact ⟨rfl, rfl⟩
theorem long_any (L : List Bm) (v : Value) (w : World) (hv : MsAt w v L) : Calls Tryz.prog 7 #[v, .int .i64 25] w fun e w' => e = .returned (.int .i64 (if okL L then 0 else 1)) ∧ w' = w := by
  obtain ⟨a, c, rfl, _, h⟩ := hv
  by_cases hn : L.length ≤ 25
  · cases L with
    | nil => exact long_none a c w
    | cons x r =>
      obtain ⟨b, o, rfl, h2⟩ := h (by simp)
      exact long_some (x :: r) b o c w hn h2
  · have : okL L = false := by unfold okL; rw [decide_eq_false hn]; rfl
    rw [this]
    exact long_many a L.length c w (by omega)
end Ve
end Go.Proofs.YtpafkniapacfdaaGreatDoor
