/-
  LawO LawM RefS
-/
import Derived.Test.YtjhlkjgijbobcaaGreatDoorFt22
import Derived.Laws.AppendOwnNone
import Derived.Lib.SmallJoins
import Derived.Test.YtjhlkjgijbobcaaGreatDoorFt31
namespace Go.Proofs.YtjhlkjgijbobcaaGreatDoor
open Go.RowKit
namespace Ve
set_option maxHeartbeats 1000000 in
theorem ownM_some (b o c : Nat) (L : List Bm) (w : World) (hn : L.length ≤ 1000000) (hL : L ≠ []) (hc : ∀ j u, (flatM L)[j]? = some u → w.cell? ⟨b, o + j, none⟩ = some u) :
    Calls Tryz.prog 22 #[.slice (some ⟨b, o, none⟩) L.length c] w fun e w' => ∃ v, e = .returned v ∧ w'.ownsRow w.heap.size 26 2 v L.length (flatM L) ∧ Below w.heap.size w w' := by
  obtain ⟨i0, hi, hz0, hz1, hz2⟩ := info_parts infoMod
  have HC := hid hc
  have hpos : 0 < L.length := List.length_pos_iff.2 hL
  clear hc hL
  go_enter Tryz.func22, Tryz.ntmps22
  go_wp2_with (at_builtin; refine wpList_append_own _ rfl _ _ 22 rfl w.heap.size 26 i0 _ 2 32 Tryz.underlying22 hi hz0 hz1 hz2 rfl (by decide) _ _ _ rfl (World.ownsRow_nil _ _ _ _) ⟨b, o, none⟩ L.length c (flatM L) rfl ?qc1 ?qc2 ?qc3 ?qc4 ?qc5 ?qc6 ?_)
  case qc1 => exact flatM_len L
  case qc2 =>
    intro j u hj
    rw [Addr.add_lit]
    exact HC.out j u hj
  case qc3 => exact flat_one L
  case qc4 => rw [Nat.zero_add]; unfold maxLen; omega
  case qc5 => rw [Nat.zero_add]; omega
  case qc6 => exact Nat.le_refl _
  intro v' w1 hown hgrow hnil
  obtain ⟨va, vn, vc, rfl⟩ := own_sl hown
  have HO := hid hown
  have HG := hid hgrow
  clear hown hgrow hnil
  go_wp2_with fail
  go_ret
  refine ⟨_, rfl, by simpa using HO.out, ?_⟩
  exact (Below.refl _ w).grown HG.out (Nat.le_refl _) (by intro k hk; simp [Value.ownBlock] at hk)
set_option maxHeartbeats 1000000 in
theorem ownM_nil (w : World) : Calls Tryz.prog 22 #[.slice none 0 0] w fun e w' => e = .returned (.slice none 0 0) ∧ w' = w := by
  obtain ⟨i0, hi, hz0, hz1, hz2⟩ := info_parts infoMod
  go_enter Tryz.func22, Tryz.ntmps22
  go_wp2_with (at_builtin; refine wpList_append_own_none rfl _ _ 22 rfl w.heap.size 26 i0 2 Tryz.underlying22 hi _ _ _ rfl (World.ownsRow_nil _ _ _ _) rfl ?_)
  go_ret
  exact ⟨rfl, rfl⟩
set_option maxHeartbeats 1000000 in
theorem ownM_none (a : Addr) (c : Nat) (w : World) : Calls Tryz.prog 22 #[.slice (some a) 0 c] w fun e w' => e = .returned (.slice none 0 0) ∧ w' = w := by
  have hrun : ∀ ty, (Builtin.append_ #[22, 22] ty #[.slice none 0 0, .slice (some a) 0 c]).run Tryz.prog w = .ok (.slice none 0 0) w := fun ty => by
    obtain ⟨i0, hi, hz0, hz1, hz2⟩ := info_parts infoMod
    have hl : (loadCells a 0).run Tryz.prog w = .ok #[] w := by simpa using run_loadCells_list (P := Tryz.prog) w a [] (by simp)
    simp [Builtin.append_, run_underlying Tryz.underlying22, Builtin.lenOf, Builtin.firstCells, Go.sizeOf, typeInfo, hi, hl]
  go_enter Tryz.func22, Tryz.ntmps22
  go_wp2_with (at_builtin; refine Lib.wpList_append_run _ rfl _ _ _ _ rfl _ _ rfl rfl _ _ (hrun _) ?_)
  go_ret
  exact ⟨rfl, rfl⟩
def Em (v : Value) (L : List Bm) : Prop := ∀ a c, v = .slice a L.length c → L = [] → (Value.slice a 0 c = .slice none 0 0 ∨ ∃ a', Value.slice a 0 c = .slice (some a') 0 c)
theorem ownM_any (v : Value) (L : List Bm) (w : World) (hn : L.length ≤ 1000000) (hv : MsAt w v L) (hem : Em v L) :
    Calls Tryz.prog 22 #[v] w fun e w' => ∃ u, e = .returned u ∧ w'.ownsRow w.heap.size 26 2 u L.length (flatM L) ∧ (L = [] → u = .slice none 0 0) ∧ Below w.heap.size w w' := by
  obtain ⟨a, c, rfl, _, h⟩ := hv
  have hz : L = [] → _ := hem a c rfl
  cases L with
  | nil =>
    rcases hz rfl with hz | ⟨a', hz⟩
    · show Calls Tryz.prog 22 #[.slice a 0 c] w _
      rw [hz]
      exact (ownM_nil w).mono fun e w' ⟨h1, h2⟩ => ⟨_, h1, World.ownsRow_nil _ _ _ _, fun _ => rfl, by rw [h2]; exact Below.refl _ _⟩
    · show Calls Tryz.prog 22 #[.slice a 0 c] w _
      rw [hz]
      exact (ownM_none a' c w).mono fun e w' ⟨h1, h2⟩ => ⟨_, h1, World.ownsRow_nil _ _ _ _, fun _ => rfl, by rw [h2]; exact Below.refl _ _⟩
  | cons x r =>
    obtain ⟨b, o, rfl, h2⟩ := h (by simp)
    exact (ownM_some b o c (x :: r) w hn (by simp) (ms_flat h2)).mono fun e w' ⟨u, h1, h2, h3⟩ => ⟨u, h1, h2, (fun h => by cases h), h3⟩
end Ve
end Go.Proofs.YtjhlkjgijbobcaaGreatDoor
namespace Go.Proofs.YtjhlkjgijbobcaaGreatDoor
open Go.RowKit
namespace Ve
def okM (m : Bm) : Bool := decide (m.1.size ≤ 70) && decide (m.2.size ≤ 60)
def okL (L : List Bm) : Bool := decide (L.length ≤ 25) && L.all okM
theorem okL_iff {L : List Bm} (h : okL L = true) : L.length ≤ 25 ∧ ∀ m, m ∈ L → m.1.size ≤ 70 ∧ m.2.size ≤ 60 := by
  unfold okL at h
  rw [Bool.and_eq_true] at h
  refine ⟨of_decide_eq_true h.1, fun m hm => ?_⟩
  have := List.all_eq_true.1 h.2 m hm
  unfold okM at this
  rw [Bool.and_eq_true] at this
  exact ⟨of_decide_eq_true this.1, of_decide_eq_true this.2⟩
theorem all_take_next {L : List Bm} {k : Nat} (hk : k < L.length) (h : (L.take k).all okM = true) (hm : okM L[k] = true) : (L.take (k + 1)).all okM = true := by
  rw [List.take_succ_eq_append_getElem hk, List.all_append, h]
  simp [hm]
theorem all_not {L : List Bm} {k : Nat} (hk : k < L.length) (hm : okM L[k] = false) : L.all okM = false := by
  cases e : L.all okM
  · rfl
  · have := List.all_eq_true.1 e L[k] (List.getElem_mem hk)
    rw [hm] at this; cases this
set_option maxHeartbeats 1000000 in
theorem long_some (L : List Bm) (b o c : Nat) (w : World) (hn : L.length ≤ 25)
    (hc : ∀ j (h : j < L.length), w.cell? ⟨b, o + j * 2, none⟩ = some (.string L[j].1) ∧ w.cell? ⟨b, o + j * 2 + 1, none⟩ = some (.string L[j].2)) :
    Calls Tryz.prog 6 #[.slice (some ⟨b, o, none⟩) L.length c, .int .i64 25] w fun e w' => e = .returned (.int .i64 (if okL L then 0 else 1)) ∧ w' = w := by
  have HC := hid hc
  have HO := hid (show okL L = L.all okM by unfold okL; rw [decide_eq_true hn, Bool.true_and])
  have hn2 : ¬ (25 : Int) < (L.length : Int) := by omega
  generalize hr : (if okL L then (0 : Int) else 1) = r
  have HR := hid hr
  clear hc hr
  go_enter Tryz.func6, Tryz.ntmps6
  go_wp2_with fail
  go_loop [5] (fun i => ∃ k : Nat, k ≤ L.length ∧ i = .int .i64 k ∧ Hid ((L.take k).all okM = true)) (fun i => L.length - (intOf i).toNat)
  case atStart => exact ⟨0, Nat.zero_le _, rfl, hid rfl⟩
  case round =>
    obtain ⟨k, hk, rfl, HA⟩ := hrel
    by_cases hlt : k < L.length
    · have hx := (HC.out k hlt).1
      have hy := (HC.out k hlt).2
      have HN := hid (fun h => all_take_next hlt HA.out h)
      have HX := hid (fun h => all_not hlt h)
      have HLT := hid hlt
      have hkI : (k : Int) < (L.length : Int) := by omega
      generalize L[k] = x at *
      clear hlt
      obtain ⟨p, v⟩ := x
      by_cases h1 : p.size ≤ 70
      · have h1' : ¬ (70 : Int) < (p.size : Int) := by omega
        by_cases h2 : v.size ≤ 60
        · have h2' : ¬ (60 : Int) < (v.size : Int) := by omega
          have HT := hid (HN.out (by unfold okM; rw [decide_eq_true h1, decide_eq_true h2]; rfl))
          go_wp2_with fail
          go_round
          case rel => exact ⟨k + 1, by have := HLT.out; omega, by go_num, HT⟩
          case measure => have := HLT.out; simp [intOf]; omega
        · have h2' : (60 : Int) < (v.size : Int) := by omega
          have HT := hid (HX.out (by unfold okM; rw [decide_eq_true h1, decide_eq_false h2]; rfl))
          go_wp2_with fail
          go_ret
          exact ⟨by rw [← HR.out, HO.out, HT.out]; rfl, rfl⟩
      · have h1' : (70 : Int) < (p.size : Int) := by omega
        have HT := hid (HX.out (by unfold okM; rw [decide_eq_false h1]; rfl))
        go_wp2_with fail
        go_ret
        exact ⟨by rw [← HR.out, HO.out, HT.out]; rfl, rfl⟩
    · have HT := hid (show L.all okM = true by have := HA.out; rw [List.take_of_length_le (by omega)] at this; exact this)
      go_wp2_with fail
      go_ret
      exact ⟨by rw [← HR.out, HO.out, HT.out]; rfl, rfl⟩
theorem long_none (a : Option Addr) (c : Nat) (w : World) : Calls Tryz.prog 6 #[.slice a 0 c, .int .i64 25] w fun e w' => e = .returned (.int .i64 0) ∧ w' = w := by
  go_enter Tryz.func6, Tryz.ntmps6
  go_wp2_with fail
  go_loop [5] (fun i => i = .int .i64 0) (fun i => 0)
  case atStart => exact rfl
  case round =>
    obtain rfl := hrel
    go_wp2_with fail
    go_ret
    exact ⟨rfl, rfl⟩
theorem long_many (a : Option Addr) (n c : Nat) (w : World) (hn : 25 < n) : Calls Tryz.prog 6 #[.slice a n c, .int .i64 25] w fun e w' => e = .returned (.int .i64 1) ∧ w' = w := by
  have hn2 : (25 : Int) < (n : Int) := by omega
  go_enter Tryz.func6, Tryz.ntmps6
  go_wp2_with fail
  go_ret
  exact ⟨rfl, rfl⟩
theorem long_any (L : List Bm) (v : Value) (w : World) (hv : MsAt w v L) : Calls Tryz.prog 6 #[v, .int .i64 25] w fun e w' => e = .returned (.int .i64 (if okL L then 0 else 1)) ∧ w' = w := by
  obtain ⟨a, c, rfl, _, h⟩ := hv
  by_cases hn : L.length ≤ 25
  · cases L with
    | nil => exact long_none a c w
    | cons x r =>
      obtain ⟨b, o, rfl, h2⟩ := h (by simp)
      exact long_some (x :: r) b o c w hn h2
  · have : okL L = false := by unfold okL; rw [decide_eq_false hn]; rfl
    rw [this]
    exact long_many a L.length c w (by omega)
set_option maxHeartbeats 1000000 in
theorem sameM_some (L : List Bm) (b o c b' o' c' : Nat) (w : World) (hn : L.length ≤ 1000000)
    (hc : ∀ j (h : j < L.length), w.cell? ⟨b, o + j * 2, none⟩ = some (.string L[j].1) ∧ w.cell? ⟨b, o + j * 2 + 1, none⟩ = some (.string L[j].2))
    (hd : ∀ j (h : j < L.length), w.cell? ⟨b', o' + j * 2, none⟩ = some (.string L[j].1) ∧ w.cell? ⟨b', o' + j * 2 + 1, none⟩ = some (.string L[j].2)) :
    Calls Tryz.prog 40 #[.slice (some ⟨b, o, none⟩) L.length c, .slice (some ⟨b', o', none⟩) L.length c'] w fun e w' => e = .returned (.bool true) ∧ Below w.heap.size w w' := by
  have HC := hid hc
  have HD := hid hd
  have hgd := modGuard
  clear hc hd
  go_enter Tryz.func40, Tryz.ntmps40
  go_wp2_with fail
  go_loopw [5] (fun i wr => ∃ k : Nat, k ≤ L.length ∧ i = .int .i64 k ∧ Hid (Below w.heap.size w wr)) (fun i _ => L.length - (intOf i).toNat)
  case atStart => exact ⟨0, Nat.zero_le _, rfl, hid (Below.refl _ _)⟩
  case round =>
    obtain ⟨k, hk, rfl, HB⟩ := hrel
    by_cases hlt : k < L.length
    · have hx := cell_below HB.out (HC.out k hlt).1
      have hy := cell_below HB.out (HC.out k hlt).2
      have hx' := cell_below HB.out (HD.out k hlt).1
      have hy' := cell_below HB.out (HD.out k hlt).2
      have hne := fun W => modNeq L[k].1 L[k].2 L[k].1 L[k].2 W
      rw [decide_eq_true ⟨rfl, rfl⟩, Bool.not_true] at hne
      have hkI : (k : Int) < (L.length : Int) := by omega
      go_wp2_with fail
      go_quiet (fail)
      go_wp2_with fail
      go_roundw
      case rel => exact ⟨k + 1, by omega, by go_num, hid (below_drawn_of HB.out _)⟩
      case measure => simp [intOf]; omega
    · go_wp2_with fail
      go_ret
      exact ⟨rfl, HB.out⟩
theorem sameM_none (a a' : Option Addr) (c c' : Nat) (w : World) : Calls Tryz.prog 40 #[.slice a 0 c, .slice a' 0 c'] w fun e w' => e = .returned (.bool true) ∧ Below w.heap.size w w' := by
  go_enter Tryz.func40, Tryz.ntmps40
  go_wp2_with fail
  go_loopw [5] (fun i wr => i = .int .i64 0 ∧ wr = w) (fun i _ => 0)
  case atStart => exact ⟨rfl, rfl⟩
  case round =>
    obtain ⟨rfl, rfl⟩ := hrel
    go_wp2_with fail
    go_ret
    exact ⟨rfl, Below.refl _ _⟩
theorem sameM_any (L : List Bm) (v u : Value) (w : World) (hn : L.length ≤ 1000000) (hv : MsAt w v L) (hu : MsAt w u L) : Calls Tryz.prog 40 #[v, u] w fun e w' => e = .returned (.bool true) ∧ Below w.heap.size w w' := by
  obtain ⟨a, c, rfl, _, h⟩ := hv
  obtain ⟨a', c', rfl, _, h'⟩ := hu
  cases L with
  | nil => exact sameM_none a a' c c' w
  | cons x r =>
    obtain ⟨b, o, rfl, h2⟩ := h (by simp)
    obtain ⟨b', o', rfl, h3⟩ := h' (by simp)
    exact sameM_some (x :: r) b o c b' o' c' w hn h2 h3
def FpP (L : List Bm) (p : ByteArray) (r : Int) : Prop := (r = -1 ∧ ∀ j (h : j < L.length), L[j].1 ≠ p) ∨ ∃ k : Nat, r = k ∧ ∃ h : k < L.length, L[k].1 = p
def fpE (L : List Bm) (p : ByteArray) (i : Nat) : Nat := match L[i]? with
  | some m => if m.1 = p then 1 else 0
  | none => 0
def fpOf (L : List Bm) (p : ByteArray) : Int := match fstE (fpE L p) L.length with
  | some k => (k : Int)
  | none => -1
theorem fpE_at {L : List Bm} {p : ByteArray} {i : Nat} (h : i < L.length) : fpE L p i = if L[i].1 = p then 1 else 0 := by unfold fpE; rw [List.getElem?_eq_getElem h]
theorem fpE_zero {L : List Bm} {p : ByteArray} {n : Nat} (hn : n ≤ L.length) (h : ∀ j (hj : j < L.length), j < n → L[j].1 ≠ p) : ∀ j, j < n → fpE L p j = 0 := fun j hj => by rw [fpE_at (by omega), if_neg (h j (by omega) hj)]
theorem fpOf_P (L : List Bm) (p : ByteArray) : FpP L p (fpOf L p) := by
  unfold fpOf
  cases h : fstE (fpE L p) L.length with
  | none =>
    refine Or.inl ⟨rfl, fun j hj e => ?_⟩
    have := fstE_of_none h j hj
    rw [fpE_at hj, if_pos e] at this; cases this
  | some k =>
    obtain ⟨h1, h2, _⟩ := fstE_of_some h
    refine Or.inr ⟨k, rfl, h1, ?_⟩
    rw [fpE_at h1] at h2
    by_cases e : L[k].1 = p
    · exact e
    · rw [if_neg e] at h2; exact absurd rfl h2
set_option maxHeartbeats 1000000 in
theorem fp_some (L : List Bm) (p : ByteArray) (b o c : Nat) (w : World) (hn : L.length ≤ 1000000)
    (hc : ∀ j (h : j < L.length), w.cell? ⟨b, o + j * 2, none⟩ = some (.string L[j].1) ∧ w.cell? ⟨b, o + j * 2 + 1, none⟩ = some (.string L[j].2)) :
    Calls Tryz.prog 21 #[.slice (some ⟨b, o, none⟩) L.length c, .string p] w fun e w' => e = .returned (.int .i64 (fpOf L p)) ∧ w' = w := by
  have HC := hid hc
  generalize hr : fpOf L p = r
  have HR := hid hr
  clear hc hr
  go_enter Tryz.func21, Tryz.ntmps21
  go_wp2_with fail
  go_loop [5] (fun i => ∃ k : Nat, k ≤ L.length ∧ i = .int .i64 k ∧ Hid (∀ j (h : j < L.length), j < k → L[j].1 ≠ p)) (fun i => L.length - (intOf i).toNat)
  case atStart => exact ⟨0, Nat.zero_le _, rfl, hid (fun j _ hj => absurd hj (by omega))⟩
  case round =>
    obtain ⟨k, hk, rfl, HA⟩ := hrel
    by_cases hlt : k < L.length
    · have hx := (HC.out k hlt).1
      have hkI : (k : Int) < (L.length : Int) := by omega
      by_cases he : L[k].1 = p
      · have HF := hid (show fpOf L p = k by unfold fpOf; rw [fstE_some (fpE_zero (by omega) HA.out) (by rw [fpE_at hlt, if_pos he]; decide) hlt])
        rw [he] at hx
        have hq := str_refl p
        clear he
        go_wp2_with fail
        go_ret
        exact ⟨by rw [← HR.out, HF.out]; rfl, rfl⟩
      · have hq := str_ne he
        have HE := hid he
        clear he
        go_wp2_with fail
        go_round
        case rel => exact ⟨k + 1, by omega, by go_num, hid (fun j hj hjk => by
          rcases Nat.lt_or_ge j k with h | h
          · exact HA.out j hj h
          · have : j = k := by omega
            subst this; exact HE.out)⟩
        case measure => simp [intOf]; omega
    · have HF := hid (show fpOf L p = -1 by unfold fpOf; rw [fstE_none (fpE_zero (Nat.le_refl _) (fun j hj _ => HA.out j hj (by omega)))])
      go_wp2_with fail
      go_ret
      exact ⟨by rw [← HR.out, HF.out]; rfl, rfl⟩
theorem fp_none (p : ByteArray) (a : Option Addr) (c : Nat) (w : World) : Calls Tryz.prog 21 #[.slice a 0 c, .string p] w fun e w' => e = .returned (.int .i64 (-1)) ∧ w' = w := by
  go_enter Tryz.func21, Tryz.ntmps21
  go_wp2_with fail
  go_loop [5] (fun i => i = .int .i64 0) (fun i => 0)
  case atStart => exact rfl
  case round =>
    obtain rfl := hrel
    go_wp2_with fail
    go_ret
    exact ⟨rfl, rfl⟩
theorem fp_is (L : List Bm) (p : ByteArray) (v : Value) (w : World) (hn : L.length ≤ 1000000) (hv : MsAt w v L) : Calls Tryz.prog 21 #[v, .string p] w fun e w' => e = .returned (.int .i64 (fpOf L p)) ∧ w' = w := by
  obtain ⟨a, c, rfl, _, h⟩ := hv
  cases L with
  | nil => exact fp_none p a c w
  | cons x r =>
    obtain ⟨b, o, rfl, h2⟩ := h (by simp)
    exact fp_some (x :: r) p b o c w hn h2
end Ve
end Go.Proofs.YtjhlkjgijbobcaaGreatDoor
namespace Go.Proofs.YtjhlkjgijbobcaaGreatDoor
open Go.RowKit
namespace Ve
def stD (l : List Bm) (m : Bm) : Bool := !(l.all fun y => lt y.1 m.1)
def stO (l : List Bm) (m : Bm) : List Bm := if stD l m then loR l m.1 ++ m :: hiR l m.1 else l
theorem stD_snoc (l : List Bm) (x m : Bm) : stD (l ++ [x]) m = (stD l m || !lt x.1 m.1) := by
  unfold stD
  rw [List.all_append]
  simp [Bool.not_and]
theorem loR_snoc (l : List Bm) (x : Bm) (p : ByteArray) : loR (l ++ [x]) p = loR l p ++ (if lt x.1 p then [x] else []) := by
  unfold loR
  rw [List.filter_append]
  simp [List.filter_cons]
theorem hiR_snoc (l : List Bm) (x : Bm) (p : ByteArray) : hiR (l ++ [x]) p = hiR l p ++ (if lt p x.1 then [x] else []) := by
  unfold hiR
  rw [List.filter_append]
  simp [List.filter_cons]
theorem st_all {l : List Bm} {m : Bm} (h : stD l m = false) : ∀ y, y ∈ l → lt y.1 m.1 = true := by
  unfold stD at h
  have h : l.all (fun y => lt y.1 m.1) = true := by simpa using h
  exact List.all_eq_true.1 h
theorem st_lo {l : List Bm} {m : Bm} (h : stD l m = false) : loR l m.1 = l ∧ hiR l m.1 = [] := by
  have ha := st_all h
  constructor
  · exact List.filter_eq_self.2 ha
  · unfold hiR
    rw [List.filter_eq_nil_iff]
    intro y hy
    rw [lt_asymm (ha y hy)]; decide
theorem st_hi {l : List Bm} {m x : Bm} (h : stD l m = true) (hr : ∀ y, y ∈ l → lt y.1 x.1 = true) : lt m.1 x.1 = true := by
  unfold stD at h
  have h : l.all (fun y => lt y.1 m.1) = false := by simpa using h
  obtain ⟨y, hy, hn⟩ := List.all_eq_false.1 h
  have hn : lt y.1 m.1 = false := by simpa using hn
  rcases lt_three y.1 m.1 with h1 | h1 | h1
  · rw [hn] at h1; cases h1
  · rw [← h1]; exact hr y hy
  · exact lt_trans h1 (hr y hy)
theorem st_a {l : List Bm} {m x : Bm} (h : stD l m = false) (hx : lt x.1 m.1 = true) : stD (l ++ [x]) m = false ∧ stO (l ++ [x]) m = stO l m ++ [x] := by
  have h1 : stD (l ++ [x]) m = false := by rw [stD_snoc, h, hx]; rfl
  refine ⟨h1, ?_⟩
  unfold stO
  rw [h1, h]; rfl
theorem st_b {l : List Bm} {m x : Bm} (h : stD l m = false) (hx : x.1 = m.1) : stD (l ++ [x]) m = true ∧ stO (l ++ [x]) m = stO l m ++ [m] := by
  have hl : lt x.1 m.1 = false := by rw [hx]; exact lt_irrefl _
  have hl2 : lt m.1 x.1 = false := by rw [hx]; exact lt_irrefl _
  have h1 : stD (l ++ [x]) m = true := by rw [stD_snoc, h, hl]; rfl
  refine ⟨h1, ?_⟩
  unfold stO
  rw [h1, h, loR_snoc, hiR_snoc, hl, hl2, (st_lo h).1, (st_lo h).2]
  simp
theorem st_c {l : List Bm} {m x : Bm} (h : stD l m = false) (hx : lt m.1 x.1 = true) : stD (l ++ [x]) m = true ∧ stO (l ++ [x]) m = stO l m ++ [m] ++ [x] := by
  have hl : lt x.1 m.1 = false := lt_asymm hx
  have h1 : stD (l ++ [x]) m = true := by rw [stD_snoc, h, hl]; rfl
  refine ⟨h1, ?_⟩
  unfold stO
  rw [h1, h, loR_snoc, hiR_snoc, hl, hx, (st_lo h).1, (st_lo h).2]
  simp
theorem st_d {l : List Bm} {m x : Bm} (h : stD l m = true) (hr : ∀ y, y ∈ l → lt y.1 x.1 = true) : stD (l ++ [x]) m = true ∧ stO (l ++ [x]) m = stO l m ++ [x] := by
  have hx := st_hi h hr
  have h1 : stD (l ++ [x]) m = true := by rw [stD_snoc, h]; rfl
  refine ⟨h1, ?_⟩
  unfold stO
  rw [h1, h, loR_snoc, hiR_snoc, lt_asymm hx, hx]
  simp
theorem st_end (R : List Bm) (m : Bm) : (if stD R m then stO R m else stO R m ++ [m]) = setR R m := by
  unfold stO setR
  cases h : stD R m
  · rw [(st_lo h).1, (st_lo h).2]; simp
  · simp
theorem rising_take {R : List Bm} (h : rising R) {k : Nat} (hk : k < R.length) : ∀ y, y ∈ R.take k → lt y.1 R[k].1 = true := by
  intro y hy
  obtain ⟨i, hi, e⟩ := List.getElem_of_mem hy
  have hik : i < k := by rw [List.length_take] at hi; omega
  rw [List.getElem_take] at e
  subst e
  exact List.pairwise_iff_getElem.1 h i k (by omega) hk hik
theorem stO_len (l : List Bm) (m : Bm) : (stO l m).length ≤ l.length + 1 + l.length := by
  unfold stO
  split
  · rw [List.length_append, List.length_cons]
    have h1 : (loR l m.1).length ≤ l.length := List.length_filter_le _ _
    have h2 : (hiR l m.1).length ≤ l.length := List.length_filter_le _ _
    omega
  · omega
def lft (l : List Bm) (p : ByteArray) : List Bm := l.filter fun m => decide (m.1 ≠ p)
theorem lft_yes {l : List Bm} {x : Bm} {p : ByteArray} (h : ¬ x.1 = p) : lft (l ++ [x]) p = lft l p ++ [x] := by
  unfold lft; rw [List.filter_append]; simp [h]
theorem lft_no {l : List Bm} {x : Bm} {p : ByteArray} (h : x.1 = p) : lft (l ++ [x]) p = lft l p := by
  unfold lft; rw [List.filter_append]; simp [h]
theorem lft_len (l : List Bm) (p : ByteArray) : (lft l p).length ≤ l.length := List.length_filter_le _ _
def outS (p : ByteArray) (X : List Bm) (r : Except Nat (List Bm)) : Nat × Fs := match r with
  | .error c => (c, noFile)
  | .ok R' => (0, (p, R', X))
theorem ms_nil (w : World) : MsAt w (.slice none 0 0) [] := ⟨none, 0, rfl, Nat.le_refl _, fun h => absurd rfl h⟩
end Ve
end Go.Proofs.YtjhlkjgijbobcaaGreatDoor
