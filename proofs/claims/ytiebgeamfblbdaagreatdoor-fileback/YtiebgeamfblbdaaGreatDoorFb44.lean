/-
  LawM
-/
import Derived.Test.YtiebgeamfblbdaaGreatDoorFb22
import Derived.Test.YtiebgeamfblbdaaGreatDoorFb23
import Derived.Test.YtiebgeamfblbdaaGreatDoorFb21
namespace Go.Proofs.YtiebgeamfblbdaaGreatDoor
open Go.RowKit
namespace Ve
def okM (m : Bm) : Bool := decide (m.1.size ≤ 70) && decide (m.2.size ≤ 60)
def okL (L : List Bm) : Bool := decide (L.length ≤ 25) && L.all okM
theorem okL_iff {L : List Bm} (h : okL L = true) : L.length ≤ 25 ∧ ∀ m, m ∈ L → m.1.size ≤ 70 ∧ m.2.size ≤ 60 := by
  unfold okL at h
  rw [Bool.and_eq_true] at h
  refine ⟨of_decide_eq_true h.1, fun m hm => ?_⟩
  have := List.all_eq_true.1 h.2 m hm
  unfold okM at this
  rw [Bool.and_eq_true] at this
  exact ⟨of_decide_eq_true this.1, of_decide_eq_true this.2⟩
theorem all_take_next {L : List Bm} {k : Nat} (hk : k < L.length) (h : (L.take k).all okM = true) (hm : okM L[k] = true) : (L.take (k + 1)).all okM = true := by
  rw [List.take_succ_eq_append_getElem hk, List.all_append, h]
  simp [hm]
theorem all_not {L : List Bm} {k : Nat} (hk : k < L.length) (hm : okM L[k] = false) : L.all okM = false := by
  cases e : L.all okM
  · rfl
  · have := List.all_eq_true.1 e L[k] (List.getElem_mem hk)
    rw [hm] at this; cases this
set_option maxHeartbeats 1000000 in
theorem long_some (L : List Bm) (b o c : Nat) (w : World) (hn : L.length ≤ 25)
    (hc : ∀ j (h : j < L.length), w.cell? ⟨b, o + j * 2, none⟩ = some (.string L[j].1) ∧ w.cell? ⟨b, o + j * 2 + 1, none⟩ = some (.string L[j].2)) :
    Calls Tryz.prog 5 #[.slice (some ⟨b, o, none⟩) L.length c, .int .i64 25] w fun e w' => e = .returned (.int .i64 (if okL L then 0 else 1)) ∧ w' = w := by
  have HC := hid hc
  have HO := hid (show okL L = L.all okM by unfold okL; rw [decide_eq_true hn, Bool.true_and])
  have hn2 : ¬ (25 : Int) < (L.length : Int) := by omega
  generalize hr : (if okL L then (0 : Int) else 1) = r
  have HR := hid hr
  clear hc hr
  go_enter Tryz.func5, Tryz.ntmps5
  go_wp2_with fail
  go_loop [5] (fun i => ∃ k : Nat, k ≤ L.length ∧ i = .int .i64 k ∧ Hid ((L.take k).all okM = true)) (fun i => L.length - (intOf i).toNat)
  case atStart => exact ⟨0, Nat.zero_le _, rfl, hid rfl⟩
  case round =>
    obtain ⟨k, hk, rfl, HA⟩ := hrel
    by_cases hlt : k < L.length
    · have hx := (HC.out k hlt).1
      have hy := (HC.out k hlt).2
      have HN := hid (fun h => all_take_next hlt HA.out h)
      have HX := hid (fun h => all_not hlt h)
      have HLT := hid hlt
      have hkI : (k : Int) < (L.length : Int) := by omega
      generalize L[k] = x at *
      clear hlt
      obtain ⟨p, v⟩ := x
      by_cases h1 : p.size ≤ 70
      · have h1' : ¬ (70 : Int) < (p.size : Int) := by omega
        by_cases h2 : v.size ≤ 60
        · have h2' : ¬ (60 : Int) < (v.size : Int) := by omega
          have HT := hid (HN.out (by unfold okM; rw [decide_eq_true h1, decide_eq_true h2]; rfl))
          go_wp2_with fail
          go_round
          case rel => exact ⟨k + 1, by have := HLT.out; omega, by go_num, HT⟩
          case measure => have := HLT.out; simp [intOf]; omega
        · have h2' : (60 : Int) < (v.size : Int) := by omega
          have HT := hid (HX.out (by unfold okM; rw [decide_eq_true h1, decide_eq_false h2]; rfl))
          go_wp2_with fail
          go_ret
          exact ⟨by rw [← HR.out, HO.out, HT.out]; rfl, rfl⟩
      · have h1' : (70 : Int) < (p.size : Int) := by omega
        have HT := hid (HX.out (by unfold okM; rw [decide_eq_false h1]; rfl))
        go_wp2_with fail
        go_ret
        exact ⟨by rw [← HR.out, HO.out, HT.out]; rfl, rfl⟩
    · have HT := hid (show L.all okM = true by have := HA.out; rw [List.take_of_length_le (by omega)] at this; exact this)
      go_wp2_with fail
      go_ret
      exact ⟨by rw [← HR.out, HO.out, HT.out]; rfl, rfl⟩
theorem long_none (a : Option Addr) (c : Nat) (w : World) : Calls Tryz.prog 5 #[.slice a 0 c, .int .i64 25] w fun e w' => e = .returned (.int .i64 0) ∧ w' = w := by
  go_enter Tryz.func5, Tryz.ntmps5
  go_wp2_with fail
  go_loop [5] (fun i => i = .int .i64 0) (fun i => 0)
  case atStart => exact rfl
  case round =>
    obtain rfl := hrel
    go_wp2_with fail
    go_ret
    exact ⟨rfl, rfl⟩
theorem long_many (a : Option Addr) (n c : Nat) (w : World) (hn : 25 < n) : Calls Tryz.prog 5 #[.slice a n c, .int .i64 25] w fun e w' => e = .returned (.int .i64 1) ∧ w' = w := by
  have hn2 : (25 : Int) < (n : Int) := by omega
  go_enter Tryz.func5, Tryz.ntmps5
  go_wp2_with fail
  go_ret
  exact ⟨rfl, rfl⟩
theorem long_any (L : List Bm) (v : Value) (w : World) (hv : MsAt w v L) : Calls Tryz.prog 5 #[v, .int .i64 25] w fun e w' => e = .returned (.int .i64 (if okL L then 0 else 1)) ∧ w' = w := by
  obtain ⟨a, c, rfl, _, h⟩ := hv
  by_cases hn : L.length ≤ 25
  · cases L with
    | nil => exact long_none a c w
    | cons x r =>
      obtain ⟨b, o, rfl, h2⟩ := h (by simp)
      exact long_some (x :: r) b o c w hn h2
  · have : okL L = false := by unfold okL; rw [decide_eq_false hn]; rfl
    rw [this]
    exact long_many a L.length c w (by omega)
set_option maxHeartbeats 1000000 in
theorem sameM_some (L : List Bm) (b o c b' o' c' : Nat) (w : World) (hn : L.length ≤ 1000000)
    (hc : ∀ j (h : j < L.length), w.cell? ⟨b, o + j * 2, none⟩ = some (.string L[j].1) ∧ w.cell? ⟨b, o + j * 2 + 1, none⟩ = some (.string L[j].2))
    (hd : ∀ j (h : j < L.length), w.cell? ⟨b', o' + j * 2, none⟩ = some (.string L[j].1) ∧ w.cell? ⟨b', o' + j * 2 + 1, none⟩ = some (.string L[j].2)) :
    Calls Tryz.prog 24 #[.slice (some ⟨b, o, none⟩) L.length c, .slice (some ⟨b', o', none⟩) L.length c'] w fun e w' => e = .returned (.bool true) ∧ Below w.heap.size w w' := by
  have HC := hid hc
  have HD := hid hd
  have hgd := modGuard
  clear hc hd
  go_enter Tryz.func24, Tryz.ntmps24
  go_wp2_with fail
  go_loopw [5] (fun i wr => ∃ k : Nat, k ≤ L.length ∧ i = .int .i64 k ∧ Hid (Below w.heap.size w wr)) (fun i _ => L.length - (intOf i).toNat)
  case atStart => exact ⟨0, Nat.zero_le _, rfl, hid (Below.refl _ _)⟩
  case round =>
    obtain ⟨k, hk, rfl, HB⟩ := hrel
    by_cases hlt : k < L.length
    · have hx := cell_below HB.out (HC.out k hlt).1
      have hy := cell_below HB.out (HC.out k hlt).2
      have hx' := cell_below HB.out (HD.out k hlt).1
      have hy' := cell_below HB.out (HD.out k hlt).2
      have hne := fun W => modNeq L[k].1 L[k].2 L[k].1 L[k].2 W
      rw [decide_eq_true ⟨rfl, rfl⟩, Bool.not_true] at hne
      have hkI : (k : Int) < (L.length : Int) := by omega
      go_wp2_with fail
      go_quiet (fail)
      go_wp2_with fail
      go_roundw
      case rel => exact ⟨k + 1, by omega, by go_num, hid (below_drawn_of HB.out _)⟩
      case measure => simp [intOf]; omega
    · go_wp2_with fail
      go_ret
      exact ⟨rfl, HB.out⟩
theorem sameM_none (a a' : Option Addr) (c c' : Nat) (w : World) : Calls Tryz.prog 24 #[.slice a 0 c, .slice a' 0 c'] w fun e w' => e = .returned (.bool true) ∧ Below w.heap.size w w' := by
  go_enter Tryz.func24, Tryz.ntmps24
  go_wp2_with fail
  go_loopw [5] (fun i wr => i = .int .i64 0 ∧ wr = w) (fun i _ => 0)
  case atStart => exact ⟨rfl, rfl⟩
  case round =>
    obtain ⟨rfl, rfl⟩ := hrel
    go_wp2_with fail
    go_ret
    exact ⟨rfl, Below.refl _ _⟩
theorem sameM_any (L : List Bm) (v u : Value) (w : World) (hn : L.length ≤ 1000000) (hv : MsAt w v L) (hu : MsAt w u L) : Calls Tryz.prog 24 #[v, u] w fun e w' => e = .returned (.bool true) ∧ Below w.heap.size w w' := by
  obtain ⟨a, c, rfl, _, h⟩ := hv
  obtain ⟨a', c', rfl, _, h'⟩ := hu
  cases L with
  | nil => exact sameM_none a a' c c' w
  | cons x r =>
    obtain ⟨b, o, rfl, h2⟩ := h (by simp)
    obtain ⟨b', o', rfl, h3⟩ := h' (by simp)
    exact sameM_some (x :: r) b o c b' o' c' w hn h2 h3
def FpP (L : List Bm) (p : ByteArray) (r : Int) : Prop := (r = -1 ∧ ∀ j (h : j < L.length), L[j].1 ≠ p) ∨ ∃ k : Nat, r = k ∧ ∃ h : k < L.length, L[k].1 = p
def fpE (L : List Bm) (p : ByteArray) (i : Nat) : Nat := match L[i]? with
  | some m => if m.1 = p then 1 else 0
  | none => 0
def fpOf (L : List Bm) (p : ByteArray) : Int := match fstE (fpE L p) L.length with
  | some k => (k : Int)
  | none => -1
theorem fpE_at {L : List Bm} {p : ByteArray} {i : Nat} (h : i < L.length) : fpE L p i = if L[i].1 = p then 1 else 0 := by unfold fpE; rw [List.getElem?_eq_getElem h]
theorem fpE_zero {L : List Bm} {p : ByteArray} {n : Nat} (hn : n ≤ L.length) (h : ∀ j (hj : j < L.length), j < n → L[j].1 ≠ p) : ∀ j, j < n → fpE L p j = 0 := fun j hj => by rw [fpE_at (by omega), if_neg (h j (by omega) hj)]
theorem fpOf_P (L : List Bm) (p : ByteArray) : FpP L p (fpOf L p) := by
  unfold fpOf
  cases h : fstE (fpE L p) L.length with
  | none =>
    refine Or.inl ⟨rfl, fun j hj e => ?_⟩
    have := fstE_of_none h j hj
    rw [fpE_at hj, if_pos e] at this; cases this
  | some k =>
    obtain ⟨h1, h2, _⟩ := fstE_of_some h
    refine Or.inr ⟨k, rfl, h1, ?_⟩
    rw [fpE_at h1] at h2
    by_cases e : L[k].1 = p
    · exact e
    · rw [if_neg e] at h2; exact absurd rfl h2
set_option maxHeartbeats 1000000 in
theorem fp_some (L : List Bm) (p : ByteArray) (b o c : Nat) (w : World) (hn : L.length ≤ 1000000)
    (hc : ∀ j (h : j < L.length), w.cell? ⟨b, o + j * 2, none⟩ = some (.string L[j].1) ∧ w.cell? ⟨b, o + j * 2 + 1, none⟩ = some (.string L[j].2)) :
    Calls Tryz.prog 12 #[.slice (some ⟨b, o, none⟩) L.length c, .string p] w fun e w' => e = .returned (.int .i64 (fpOf L p)) ∧ w' = w := by
  have HC := hid hc
  generalize hr : fpOf L p = r
  have HR := hid hr
  clear hc hr
  go_enter Tryz.func12, Tryz.ntmps12
  go_wp2_with fail
  go_loop [5] (fun i => ∃ k : Nat, k ≤ L.length ∧ i = .int .i64 k ∧ Hid (∀ j (h : j < L.length), j < k → L[j].1 ≠ p)) (fun i => L.length - (intOf i).toNat)
  case atStart => exact ⟨0, Nat.zero_le _, rfl, hid (fun j _ hj => absurd hj (by omega))⟩
  case round =>
    obtain ⟨k, hk, rfl, HA⟩ := hrel
    by_cases hlt : k < L.length
    · have hx := (HC.out k hlt).1
      have hkI : (k : Int) < (L.length : Int) := by omega
      by_cases he : L[k].1 = p
      · have HF := hid (show fpOf L p = k by unfold fpOf; rw [fstE_some (fpE_zero (by omega) HA.out) (by rw [fpE_at hlt, if_pos he]; decide) hlt])
        rw [he] at hx
        have hq := str_refl p
        clear he
        go_wp2_with fail
        go_ret
        exact ⟨by rw [← HR.out, HF.out]; rfl, rfl⟩
      · have hq := str_ne he
        have HE := hid he
        clear he
        go_wp2_with fail
        go_round
        case rel => exact ⟨k + 1, by omega, by go_num, hid (fun j hj hjk => by
          rcases Nat.lt_or_ge j k with h | h
          · exact HA.out j hj h
          · have : j = k := by omega
            subst this; exact HE.out)⟩
        case measure => simp [intOf]; omega
    · have HF := hid (show fpOf L p = -1 by unfold fpOf; rw [fstE_none (fpE_zero (Nat.le_refl _) (fun j hj _ => HA.out j hj (by omega)))])
      go_wp2_with fail
      go_ret
      exact ⟨by rw [← HR.out, HF.out]; rfl, rfl⟩
theorem fp_none (p : ByteArray) (a : Option Addr) (c : Nat) (w : World) : Calls Tryz.prog 12 #[.slice a 0 c, .string p] w fun e w' => e = .returned (.int .i64 (-1)) ∧ w' = w := by
  go_enter Tryz.func12, Tryz.ntmps12
  go_wp2_with fail
  go_loop [5] (fun i => i = .int .i64 0) (fun i => 0)
  case atStart => exact rfl
  case round =>
    obtain rfl := hrel
    go_wp2_with fail
    go_ret
    exact ⟨rfl, rfl⟩
theorem fp_is (L : List Bm) (p : ByteArray) (v : Value) (w : World) (hn : L.length ≤ 1000000) (hv : MsAt w v L) : Calls Tryz.prog 12 #[v, .string p] w fun e w' => e = .returned (.int .i64 (fpOf L p)) ∧ w' = w := by
  obtain ⟨a, c, rfl, _, h⟩ := hv
  cases L with
  | nil => exact fp_none p a c w
  | cons x r =>
    obtain ⟨b, o, rfl, h2⟩ := h (by simp)
    exact fp_some (x :: r) p b o c w hn h2
theorem fp_any (L : List Bm) (p : ByteArray) (v : Value) (w : World) (hn : L.length ≤ 1000000) (hv : MsAt w v L) : Calls Tryz.prog 12 #[v, .string p] w fun e w' => ∃ r, e = .returned (.int .i64 r) ∧ FpP L p r ∧ w' = w :=
  (fp_is L p v w hn hv).mono fun _ _ ⟨h1, h2⟩ => ⟨_, h1, fpOf_P L p, h2⟩
end Ve
end Go.Proofs.YtiebgeamfblbdaaGreatDoor
