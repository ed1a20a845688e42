/-
  What LongMods, SameMods, SameFile, FindPath and filed answer; nothing old in memory turns.
-/
import Derived.Test.YtjphlclhkaoipaaGreatDoorJn8
import Derived.Test.YtjphlclhkaoipaaGreatDoorJn6
import Derived.KernelRfl
import Derived.Test.YtjphlclhkaoipaaGreatDoorJn5
import Derived.Test.YtjphlclhkaoipaaGreatDoorJn7
namespace Go.Proofs.YtjphlclhkaoipaaGreatDoor
open Go.RowKit
namespace Ve

/-- Not too many modules, none too long. -/
def okM (m : Bm) : Bool := decide (m.1.size ≤ 70) && decide (m.2.size ≤ 60)
def okL (L : List Bm) : Bool := decide (L.length ≤ 25) && L.all okM
theorem okL_iff {L : List Bm} (h : okL L = true) : L.length ≤ 25 ∧ ∀ m, m ∈ L → m.1.size ≤ 70 ∧ m.2.size ≤ 60 := by
  unfold okL at h
  rw [Bool.and_eq_true] at h
  refine ⟨of_decide_eq_true h.1, fun m hm => ?_⟩
  have := List.all_eq_true.1 h.2 m hm
  unfold okM at this
  rw [Bool.and_eq_true] at this
  exact ⟨of_decide_eq_true this.1, of_decide_eq_true this.2⟩
theorem all_take_next {L : List Bm} {k : Nat} (hk : k < L.length) (h : (L.take k).all okM = true) (hm : okM L[k] = true) : (L.take (k + 1)).all okM = true := by
  rw [List.take_succ_eq_append_getElem hk, List.all_append, h]
  simp [hm]
theorem all_not {L : List Bm} {k : Nat} (hk : k < L.length) (hm : okM L[k] = false) : L.all okM = false := by
  cases e : L.all okM
  · rfl
  · have := List.all_eq_true.1 e L[k] (List.getElem_mem hk)
    rw [hm] at this; cases this
set_option maxHeartbeats 1000000 in
theorem long_some (L : List Bm) (b o c : Nat) (w : World) (hn : L.length ≤ 25)
    (hc : ∀ j (h : j < L.length), w.cell? ⟨b, o + j * 2, none⟩ = some (.string L[j].1) ∧ w.cell? ⟨b, o + j * 2 + 1, none⟩ = some (.string L[j].2)) :
    Calls Tryz.prog 5 #[.slice (some ⟨b, o, none⟩) L.length c, .int .i64 25] w fun e w' => e = .returned (.int .i64 (if okL L then 0 else 1)) ∧ w' = w := by
  have HC := hid hc
  have HO := hid (show okL L = L.all okM by unfold okL; rw [decide_eq_true hn, Bool.true_and])
  have hn2 : ¬ (25 : Int) < (L.length : Int) := by omega
  generalize hr : (if okL L then (0 : Int) else 1) = r
  have HR := hid hr
  clear hc hr
  go_enter Tryz.func5, Tryz.ntmps5
  go_wp2_with fail
  go_loop [5] (fun i => ∃ k : Nat, k ≤ L.length ∧ i = .int .i64 k ∧ Hid ((L.take k).all okM = true)) (fun i => L.length - (intOf i).toNat)
  case atStart => exact ⟨0, Nat.zero_le _, rfl, hid rfl⟩
  case round =>
    obtain ⟨k, hk, rfl, HA⟩ := hrel
    by_cases hlt : k < L.length
    · have hx := (HC.out k hlt).1
      have hy := (HC.out k hlt).2
      have HN := hid (fun h => all_take_next hlt HA.out h)
      have HX := hid (fun h => all_not hlt h)
      have HLT := hid hlt
      have hkI : (k : Int) < (L.length : Int) := by omega
      generalize L[k] = x at *
      clear hlt
      obtain ⟨p, v⟩ := x
      by_cases h1 : p.size ≤ 70
      · have h1' : ¬ (70 : Int) < (p.size : Int) := by omega
        by_cases h2 : v.size ≤ 60
        · have h2' : ¬ (60 : Int) < (v.size : Int) := by omega
          have HT := hid (HN.out (by unfold okM; rw [decide_eq_true h1, decide_eq_true h2]; rfl))
          go_wp2_with fail
          go_round
          case rel => exact ⟨k + 1, by have := HLT.out; omega, by go_num, HT⟩
          case measure => have := HLT.out; simp [intOf]; omega
        · have h2' : (60 : Int) < (v.size : Int) := by omega
          have HT := hid (HX.out (by unfold okM; rw [decide_eq_true h1, decide_eq_false h2]; rfl))
          go_wp2_with fail
          go_ret
          exact ⟨by rw [← HR.out, HO.out, HT.out]; rfl, rfl⟩
      · have h1' : (70 : Int) < (p.size : Int) := by omega
        have HT := hid (HX.out (by unfold okM; rw [decide_eq_false h1]; rfl))
        go_wp2_with fail
        go_ret
        exact ⟨by rw [← HR.out, HO.out, HT.out]; rfl, rfl⟩
    · have HT := hid (show L.all okM = true by have := HA.out; rw [List.take_of_length_le (by omega)] at this; exact this)
      go_wp2_with fail
      go_ret
      exact ⟨by rw [← HR.out, HO.out, HT.out]; rfl, rfl⟩
theorem long_none (a : Option Addr) (c : Nat) (w : World) : Calls Tryz.prog 5 #[.slice a 0 c, .int .i64 25] w fun e w' => e = .returned (.int .i64 0) ∧ w' = w := by
  go_enter Tryz.func5, Tryz.ntmps5
  go_wp2_with fail
  go_loop [5] (fun i => i = .int .i64 0) (fun i => 0)
  case atStart => exact rfl
  case round =>
    obtain rfl := hrel
    go_wp2_with fail
    go_ret
    exact ⟨rfl, rfl⟩
theorem long_many (a : Option Addr) (n c : Nat) (w : World) (hn : 25 < n) : Calls Tryz.prog 5 #[.slice a n c, .int .i64 25] w fun e w' => e = .returned (.int .i64 1) ∧ w' = w := by
  have hn2 : (25 : Int) < (n : Int) := by omega
  go_enter Tryz.func5, Tryz.ntmps5
  go_wp2_with fail
  go_ret
  exact ⟨rfl, rfl⟩
theorem long_any (L : List Bm) (v : Value) (w : World) (hv : MsAt w v L) : Calls Tryz.prog 5 #[v, .int .i64 25] w fun e w' => e = .returned (.int .i64 (if okL L then 0 else 1)) ∧ w' = w := by
  obtain ⟨a, c, rfl, _, h⟩ := hv
  by_cases hn : L.length ≤ 25
  · cases L with
    | nil => exact long_none a c w
    | cons x r =>
      obtain ⟨b, o, rfl, h2⟩ := h (by simp)
      exact long_some (x :: r) b o c w hn h2
  · have : okL L = false := by unfold okL; rw [decide_eq_false hn]; rfl
    rw [this]
    exact long_many a L.length c w (by omega)

set_option maxHeartbeats 1000000 in
theorem sameM_some (L : List Bm) (b o c b' o' c' : Nat) (w : World) (hn : L.length ≤ 1000000)
    (hc : ∀ j (h : j < L.length), w.cell? ⟨b, o + j * 2, none⟩ = some (.string L[j].1) ∧ w.cell? ⟨b, o + j * 2 + 1, none⟩ = some (.string L[j].2))
    (hd : ∀ j (h : j < L.length), w.cell? ⟨b', o' + j * 2, none⟩ = some (.string L[j].1) ∧ w.cell? ⟨b', o' + j * 2 + 1, none⟩ = some (.string L[j].2)) :
    Calls Tryz.prog 38 #[.slice (some ⟨b, o, none⟩) L.length c, .slice (some ⟨b', o', none⟩) L.length c'] w fun e w' => e = .returned (.bool true) ∧ Below w.heap.size w w' := by
  have HC := hid hc
  have HD := hid hd
  have hgd := modGuard
  clear hc hd
  go_enter Tryz.func38, Tryz.ntmps38
  go_wp2_with fail
  go_loopw [5] (fun i wr => ∃ k : Nat, k ≤ L.length ∧ i = .int .i64 k ∧ Hid (Below w.heap.size w wr)) (fun i _ => L.length - (intOf i).toNat)
  case atStart => exact ⟨0, Nat.zero_le _, rfl, hid (Below.refl _ _)⟩
  case round =>
    obtain ⟨k, hk, rfl, HB⟩ := hrel
    by_cases hlt : k < L.length
    · have hx := cell_below HB.out (HC.out k hlt).1
      have hy := cell_below HB.out (HC.out k hlt).2
      have hx' := cell_below HB.out (HD.out k hlt).1
      have hy' := cell_below HB.out (HD.out k hlt).2
      have hne := fun W => modNeq L[k].1 L[k].2 L[k].1 L[k].2 W
      rw [decide_eq_true ⟨rfl, rfl⟩, Bool.not_true] at hne
      have hkI : (k : Int) < (L.length : Int) := by omega
      go_wp2_with fail
      go_quiet (fail)
      go_wp2_with fail
      go_roundw
      case rel => exact ⟨k + 1, by omega, by go_num, hid (below_drawn_of HB.out _)⟩
      case measure => simp [intOf]; omega
    · go_wp2_with fail
      go_ret
      exact ⟨rfl, HB.out⟩
theorem sameM_none (a a' : Option Addr) (c c' : Nat) (w : World) : Calls Tryz.prog 38 #[.slice a 0 c, .slice a' 0 c'] w fun e w' => e = .returned (.bool true) ∧ Below w.heap.size w w' := by
  go_enter Tryz.func38, Tryz.ntmps38
  go_wp2_with fail
  go_loopw [5] (fun i wr => i = .int .i64 0 ∧ wr = w) (fun i _ => 0)
  case atStart => exact ⟨rfl, rfl⟩
  case round =>
    obtain ⟨rfl, rfl⟩ := hrel
    go_wp2_with fail
    go_ret
    exact ⟨rfl, Below.refl _ _⟩
theorem sameM_any (L : List Bm) (v u : Value) (w : World) (hn : L.length ≤ 1000000) (hv : MsAt w v L) (hu : MsAt w u L) : Calls Tryz.prog 38 #[v, u] w fun e w' => e = .returned (.bool true) ∧ Below w.heap.size w w' := by
  obtain ⟨a, c, rfl, _, h⟩ := hv
  obtain ⟨a', c', rfl, _, h'⟩ := hu
  cases L with
  | nil => exact sameM_none a a' c c' w
  | cons x r =>
    obtain ⟨b, o, rfl, h2⟩ := h (by simp)
    obtain ⟨b', o', rfl, h3⟩ := h' (by simp)
    exact sameM_some (x :: r) b o c b' o' c' w hn h2 h3
/-- Where a path is among modules: the first place, or none. -/
def FpP (L : List Bm) (p : ByteArray) (r : Int) : Prop := (r = -1 ∧ ∀ j (h : j < L.length), L[j].1 ≠ p) ∨ ∃ k : Nat, r = k ∧ ∃ h : k < L.length, L[k].1 = p
/-- That place, as a function. -/
def fpE (L : List Bm) (p : ByteArray) (i : Nat) : Nat := match L[i]? with
  | some m => if m.1 = p then 1 else 0
  | none => 0
def fpOf (L : List Bm) (p : ByteArray) : Int := match fstE (fpE L p) L.length with
  | some k => (k : Int)
  | none => -1
theorem fpE_at {L : List Bm} {p : ByteArray} {i : Nat} (h : i < L.length) : fpE L p i = if L[i].1 = p then 1 else 0 := by unfold fpE; rw [List.getElem?_eq_getElem h]
theorem fpE_zero {L : List Bm} {p : ByteArray} {n : Nat} (hn : n ≤ L.length) (h : ∀ j (hj : j < L.length), j < n → L[j].1 ≠ p) : ∀ j, j < n → fpE L p j = 0 := fun j hj => by rw [fpE_at (by omega), if_neg (h j (by omega) hj)]
theorem fpOf_P (L : List Bm) (p : ByteArray) : FpP L p (fpOf L p) := by
  unfold fpOf
  cases h : fstE (fpE L p) L.length with
  | none =>
    refine Or.inl ⟨rfl, fun j hj e => ?_⟩
    have := fstE_of_none h j hj
    rw [fpE_at hj, if_pos e] at this; cases this
  | some k =>
    obtain ⟨h1, h2, _⟩ := fstE_of_some h
    refine Or.inr ⟨k, rfl, h1, ?_⟩
    rw [fpE_at h1] at h2
    by_cases e : L[k].1 = p
    · exact e
    · rw [if_neg e] at h2; exact absurd rfl h2
set_option maxHeartbeats 1000000 in
theorem fp_some (L : List Bm) (p : ByteArray) (b o c : Nat) (w : World) (hn : L.length ≤ 1000000)
    (hc : ∀ j (h : j < L.length), w.cell? ⟨b, o + j * 2, none⟩ = some (.string L[j].1) ∧ w.cell? ⟨b, o + j * 2 + 1, none⟩ = some (.string L[j].2)) :
    Calls Tryz.prog 43 #[.slice (some ⟨b, o, none⟩) L.length c, .string p] w fun e w' => e = .returned (.int .i64 (fpOf L p)) ∧ w' = w := by
  have HC := hid hc
  generalize hr : fpOf L p = r
  have HR := hid hr
  clear hc hr
  go_enter Tryz.func43, Tryz.ntmps43
  go_wp2_with fail
  go_loop [5] (fun i => ∃ k : Nat, k ≤ L.length ∧ i = .int .i64 k ∧ Hid (∀ j (h : j < L.length), j < k → L[j].1 ≠ p)) (fun i => L.length - (intOf i).toNat)
  case atStart => exact ⟨0, Nat.zero_le _, rfl, hid (fun j _ hj => absurd hj (by omega))⟩
  case round =>
    obtain ⟨k, hk, rfl, HA⟩ := hrel
    by_cases hlt : k < L.length
    · have hx := (HC.out k hlt).1
      have hkI : (k : Int) < (L.length : Int) := by omega
      by_cases he : L[k].1 = p
      · have HF := hid (show fpOf L p = k by unfold fpOf; rw [fstE_some (fpE_zero (by omega) HA.out) (by rw [fpE_at hlt, if_pos he]; decide) hlt])
        rw [he] at hx
        have hq := str_refl p
        clear he
        go_wp2_with fail
        go_ret
        exact ⟨by rw [← HR.out, HF.out]; rfl, rfl⟩
      · have hq := str_ne he
        have HE := hid he
        clear he
        go_wp2_with fail
        go_round
        case rel => exact ⟨k + 1, by omega, by go_num, hid (fun j hj hjk => by
          rcases Nat.lt_or_ge j k with h | h
          · exact HA.out j hj h
          · have : j = k := by omega
            subst this; exact HE.out)⟩
        case measure => simp [intOf]; omega
    · have HF := hid (show fpOf L p = -1 by unfold fpOf; rw [fstE_none (fpE_zero (Nat.le_refl _) (fun j hj _ => HA.out j hj (by omega)))])
      go_wp2_with fail
      go_ret
      exact ⟨by rw [← HR.out, HF.out]; rfl, rfl⟩
theorem fp_none (p : ByteArray) (a : Option Addr) (c : Nat) (w : World) : Calls Tryz.prog 43 #[.slice a 0 c, .string p] w fun e w' => e = .returned (.int .i64 (-1)) ∧ w' = w := by
  go_enter Tryz.func43, Tryz.ntmps43
  go_wp2_with fail
  go_loop [5] (fun i => i = .int .i64 0) (fun i => 0)
  case atStart => exact rfl
  case round =>
    obtain rfl := hrel
    go_wp2_with fail
    go_ret
    exact ⟨rfl, rfl⟩
theorem fp_is (L : List Bm) (p : ByteArray) (v : Value) (w : World) (hn : L.length ≤ 1000000) (hv : MsAt w v L) : Calls Tryz.prog 43 #[v, .string p] w fun e w' => e = .returned (.int .i64 (fpOf L p)) ∧ w' = w := by
  obtain ⟨a, c, rfl, _, h⟩ := hv
  cases L with
  | nil => exact fp_none p a c w
  | cons x r =>
    obtain ⟨b, o, rfl, h2⟩ := h (by simp)
    exact fp_some (x :: r) p b o c w hn h2
theorem fp_any (L : List Bm) (p : ByteArray) (v : Value) (w : World) (hn : L.length ≤ 1000000) (hv : MsAt w v L) : Calls Tryz.prog 43 #[v, .string p] w fun e w' => ∃ r, e = .returned (.int .i64 r) ∧ FpP L p r ∧ w' = w :=
  (fp_is L p v w hn hv).mono fun _ _ ⟨h1, h2⟩ => ⟨_, h1, fpOf_P L p, h2⟩
end Ve
end Go.Proofs.YtjphlclhkaoipaaGreatDoor

/-
  What SameFile and filed answer; nothing old in memory turns.
-/
namespace Go.Proofs.YtjphlclhkaoipaaGreatDoor
open Go.RowKit
namespace Ve

set_option maxHeartbeats 2000000 in
theorem sameF_any (p : ByteArray) (R X : List Bm) (v u v' u' : Value) (w : World) (F : Fl w R X v u) (F' : Fl w R X v' u') :
    Calls Tryz.prog 14 #[.agg #[.string p, v, u], .agg #[.string p, v', u']] w fun e w' => e = .returned (.bool true) ∧ Below w.heap.size w w' := by
  obtain ⟨⟨vp, vc, rfl⟩, up, uc, rfl⟩ := F.slices
  obtain ⟨⟨vp', vc', rfl⟩, up', uc', rfl⟩ := F'.slices
  have HB1 := hid (((Below.refl w.heap.size w).alloc (Nat.le_refl _) (.cells #[.string p, .slice vp R.length vc, .slice up X.length uc] 24)).alloc (by simp) (.cells #[.string p, .slice vp' R.length vc', .slice up' X.length uc'] 24))
  have HF := hid F
  have HF' := hid F'
  have he := str_refl p
  clear F F'
  go_enter Tryz.func14, Tryz.ntmps14
  go_wp2_with fail
  refine (sameM_any R _ _ _ HF.out.rn (HF.out.r.below HB1.out) (HF'.out.r.below HB1.out)).mono ?_
  rintro e w1 ⟨rfl, hb⟩
  have HBa := hid (show Below (w.heap.size + 1 + 1) _ w1 from hb.mono (by simp))
  have HBw := hid (HB1.out.trans (hb.mono HB1.out.size))
  obtain ⟨⟨q0, q1, q2⟩, ⟨r0, r1, r2⟩, rf, rz⟩ := two3 HBa.out
  clear hb
  go_wp2_with fail
  refine (sameM_any X _ _ _ HF.out.xn (HF.out.x.below HBw.out) (HF'.out.x.below HBw.out)).mono ?_
  rintro e w2 ⟨rfl, hb⟩
  have HBx := hid (HBw.out.trans (hb.mono HBw.out.size))
  clear hb
  go_wp2_with fail
  go_ret
  exact ⟨rfl, HBx.out⟩

/-- The text of the closed fact, and its file. -/
def closedT : List UInt8 := [109, 111, 100, 117, 108, 101, 32, 109, 97, 105, 110, 10, 114, 101, 113, 117, 105, 114, 101, 32, 97, 32, 118, 49, 46, 48, 46, 48, 10, 101, 120, 99, 108, 117, 100, 101, 32, 98, 32, 118, 48, 46, 49, 46, 48, 10]
def closedF : Fs := (bt [109, 97, 105, 110], [(bt [97], bt [118, 49, 46, 48, 46, 48])], [(bt [98], bt [118, 48, 46, 49, 46, 48])])
theorem closed_read : readL closedT = .ok closedF := by kernel_rfl
theorem closed_code : (fileF closedF.1 closedF.2.1 closedF.2.2).1 = 0 := by kernel_rfl
theorem closed_text : fText closedF = closedT := by kernel_rfl
set_option maxHeartbeats 2000000 in
theorem filed_any (A : Nat → Addr) (m : Int) (w : World) (S : Te w A m) :
    Calls Tryz.prog 4 #[] w fun e w' => e = .returned (.bool true) ∧ Below w.heap.size w w' := by
  have HR := hid (fread_ok (bt closedT) closedF A m w S (by decide) (by rw [bt_list]; exact closed_read) closed_code)
  have HS := hid S
  clear S
  go_enter Tryz.func4, Tryz.ntmps4
  go_wp2_with fail
  refine HR.out.mono ?_
  rintro e w1 ⟨v, u, rfl, hv, hu, hb⟩
  have HFL := hid (show Fl w1 closedF.2.1 closedF.2.2 v u from ⟨hv, hu, fun m hm => by
    have : m = (bt [97], bt [118, 49, 46, 48, 46, 48]) := by simpa [closedF] using hm
    rw [this]; decide, fun m hm => by
    have : m = (bt [98], bt [118, 48, 46, 49, 46, 48]) := by simpa [closedF] using hm
    rw [this]; decide, by decide, by decide⟩)
  have HS1 := hid (HS.out.below hb)
  obtain ⟨va, vc, ev, _⟩ := hv
  obtain ⟨ua, uc, eu, _⟩ := hu
  rw [show closedF.2.1.length = 1 from rfl] at ev
  rw [show closedF.2.2.length = 1 from rfl] at eu
  subst ev; subst eu
  have HBa := hid ((Below.refl w1.heap.size w1).alloc (Nat.le_refl _) (.cells #[.string closedF.1, .slice va 1 vc, .slice ua 1 uc] 24))
  have HTX := hid (ftext_ok closedF.1 closedF.2.1 closedF.2.2 _ _ A m _ (by decide) (HS1.out.below HBa.out) (HFL.out.below HBa.out) closed_code)
  rw [show bt (fText (closedF.1, closedF.2.1, closedF.2.2)) = (⟨#[109, 111, 100, 117, 108, 101, 32, 109, 97, 105, 110, 10, 114, 101, 113, 117, 105, 114, 101, 32, 97, 32, 118, 49, 46, 48, 46, 48, 10, 101, 120, 99, 108, 117, 100, 101, 32, 98, 32, 118, 48, 46, 49, 46, 48, 10]⟩ : ByteArray) from congrArg bt closed_text] at HTX
  have he := str_refl (⟨#[109, 111, 100, 117, 108, 101, 32, 109, 97, 105, 110, 10, 114, 101, 113, 117, 105, 114, 101, 32, 97, 32, 118, 49, 46, 48, 46, 48, 10, 101, 120, 99, 108, 117, 100, 101, 32, 98, 32, 118, 48, 46, 49, 46, 48, 10]⟩ : ByteArray)
  have HBw := hid (hb.trans (HBa.out.mono hb.size))
  generalize closedF.1 = P at *
  clear hb
  go_wp2_with fail
  refine HTX.out.mono ?_
  rintro e w2 ⟨rfl, hb⟩
  have HBx := hid (HBw.out.trans (hb.mono HBw.out.size))
  clear hb
  go_wp2_with fail
  go_ret
  exact ⟨rfl, HBx.out⟩
end Ve
end Go.Proofs.YtjphlclhkaoipaaGreatDoor

/-
  FileTells answers true at a file, a text or a module that is too long for it.
-/
namespace Go.Proofs.YtjphlclhkaoipaaGreatDoor
open Go.RowKit
namespace Ve

/-- Is a text not too long? -/
def fitS (s : ByteArray) : Bool := decide (s.size ≤ 600) || decide (s.size = 8001)
/-- Is nothing too long? -/
def fitT (p : ByteArray) (R X : List Bm) (s : ByteArray) (m : Bm) : Bool := decide (p.size ≤ 90) && (okL R && okL X) && fitS s && decide (m.1.size ≤ 90) && decide (m.2.size ≤ 60)
theorem fitS_no {s : ByteArray} (h : fitS s = false) : decide ((600 : Int) < (s.size : Int)) = true ∧ ((s.size : Int) != 8001) = true := by
  unfold fitS at h
  rw [Bool.or_eq_false_iff] at h
  have h1 := of_decide_eq_false h.1
  have h2 := of_decide_eq_false h.2
  exact ⟨decide_eq_true (by omega), bne_iff_ne.2 (by omega)⟩
theorem fitS_yes {s : ByteArray} (h : fitS s = true) : decide ((600 : Int) < (s.size : Int)) = false ∨ (decide ((600 : Int) < (s.size : Int)) = true ∧ ((s.size : Int) != 8001) = false) := by
  unfold fitS at h
  rw [Bool.or_eq_true] at h
  rcases h with h | h
  · left; exact decide_eq_false (by have := of_decide_eq_true h; omega)
  · right
    have := of_decide_eq_true h
    exact ⟨decide_eq_true (by omega), by rw [bne, beq_iff_eq.2 (show (s.size : Int) = 8001 by omega)]; rfl⟩
set_option maxHeartbeats 8000000 in
set_option maxRecDepth 100000 in
theorem tells_long (p : ByteArray) (R X : List Bm) (v u : Value) (s : ByteArray) (m : Bm) (A : Nat → Addr) (k0 : Int) (w : World) (S : Te w A k0) (hr : MsAt w v R) (hx : MsAt w u X) (h : fitT p R X s m = false) :
    Calls Tryz.prog 3 #[.agg #[.string p, v, u], .string s, .agg #[.string m.1, .string m.2]] w fun e w' => e = .returned (.bool true) ∧ Below w.heap.size w w' := by
  obtain ⟨vp, vc, ev, _⟩ := id hr
  obtain ⟨up, uc, eu, _⟩ := id hx
  subst ev; subst eu
  have HB1 := hid (((Below.refl w.heap.size w).alloc (Nat.le_refl _) (.cells #[.string p, .slice vp R.length vc, .slice up X.length uc] 24)).alloc (by simp) (.cells #[.string m.1, .string m.2] 26))
  have HFD := hid (filed_any A k0 _ (S.below HB1.out))
  have HRR := hid hr
  have HXX := hid hx
  have HFT := hid h
  clear S hr hx h
  have hw0 : IntKind.i64.wrap 0 = 0 := by decide
  have hw1 : IntKind.i64.wrap 1 = 1 := by decide
  have hw2 : IntKind.i64.wrap 2 = 2 := by decide
  by_cases h1 : p.size ≤ 90
  · have q1 : decide ((90 : Int) < (p.size : Int)) = false := decide_eq_false (by omega)
    cases hR : okL R
    · cases hX : okL X
      all_goals
        go_enter Tryz.func3, Tryz.ntmps3
        go_wp2_with fail
        refine HFD.out.mono ?_
        rintro e w1 ⟨rfl, hb⟩
        have HBa := hid (show Below (w.heap.size + 1 + 1) _ w1 from hb.mono (by simp))
        obtain ⟨⟨f0, f1, f2⟩, ⟨m0, m1⟩, _, wz⟩ := bx32 HBa.out
        have HBw := hid (HB1.out.trans (hb.mono HB1.out.size))
        have HL1 := hid (fun n => long_any R _ (w1.drewN n) (HRR.out.below (below_drawn_of HBw.out n)))
        have HL2 := hid (fun n => long_any X _ (w1.drewN n) (HXX.out.below (below_drawn_of HBw.out n)))
        rw [hR] at HL1
        rw [hX] at HL2
        clear hb
        go_wp2_with fail
        go_quiet (first
          | (go_at_call_of 5 (Value.slice vp R.length vc); refine (HL1.out _).mono fun e w' h => ⟨h.1, _, h.2⟩)
          | (go_at_call_of 5 (Value.slice up X.length uc); refine (HL2.out _).mono fun e w' h => ⟨h.1, _, h.2⟩))
        go_wp2_with fail
        go_ret
        exact ⟨rfl, below_drawn_of HBw.out _⟩
    · cases hX : okL X
      · go_enter Tryz.func3, Tryz.ntmps3
        go_wp2_with fail
        refine HFD.out.mono ?_
        rintro e w1 ⟨rfl, hb⟩
        have HBa := hid (show Below (w.heap.size + 1 + 1) _ w1 from hb.mono (by simp))
        obtain ⟨⟨f0, f1, f2⟩, ⟨m0, m1⟩, _, wz⟩ := bx32 HBa.out
        have HBw := hid (HB1.out.trans (hb.mono HB1.out.size))
        have HL1 := hid (fun n => long_any R _ (w1.drewN n) (HRR.out.below (below_drawn_of HBw.out n)))
        have HL2 := hid (fun n => long_any X _ (w1.drewN n) (HXX.out.below (below_drawn_of HBw.out n)))
        rw [hR] at HL1
        rw [hX] at HL2
        clear hb
        go_wp2_with fail
        go_quiet (first
          | (go_at_call_of 5 (Value.slice vp R.length vc); refine (HL1.out _).mono fun e w' h => ⟨h.1, _, h.2⟩)
          | (go_at_call_of 5 (Value.slice up X.length uc); refine (HL2.out _).mono fun e w' h => ⟨h.1, _, h.2⟩))
        go_wp2_with fail
        go_ret
        exact ⟨rfl, below_drawn_of HBw.out _⟩
      · cases hS : fitS s
        · obtain ⟨s1, s2⟩ := fitS_no hS
          go_enter Tryz.func3, Tryz.ntmps3
          go_wp2_with fail
          refine HFD.out.mono ?_
          rintro e w1 ⟨rfl, hb⟩
          have HBa := hid (show Below (w.heap.size + 1 + 1) _ w1 from hb.mono (by simp))
          obtain ⟨⟨f0, f1, f2⟩, ⟨m0, m1⟩, _, wz⟩ := bx32 HBa.out
          have HBw := hid (HB1.out.trans (hb.mono HB1.out.size))
          have HL1 := hid (fun n => long_any R _ (w1.drewN n) (HRR.out.below (below_drawn_of HBw.out n)))
          have HL2 := hid (fun n => long_any X _ (w1.drewN n) (HXX.out.below (below_drawn_of HBw.out n)))
          rw [hR] at HL1
          rw [hX] at HL2
          clear hb
          go_wp2_with fail
          go_quiet (first
            | (go_at_call_of 5 (Value.slice vp R.length vc); refine (HL1.out _).mono fun e w' h => ⟨h.1, _, h.2⟩)
            | (go_at_call_of 5 (Value.slice up X.length uc); refine (HL2.out _).mono fun e w' h => ⟨h.1, _, h.2⟩))
          go_wp2_with fail
          go_ret
          exact ⟨rfl, below_drawn_of HBw.out _⟩
        · by_cases h3 : m.1.size ≤ 90
          · have q3 : decide ((90 : Int) < (m.1.size : Int)) = false := decide_eq_false (by omega)
            have q4 : decide ((60 : Int) < (m.2.size : Int)) = true := decide_eq_true (by
              by_cases h4 : m.2.size ≤ 60
              · have := HFT.out
                unfold fitT at this
                rw [decide_eq_true h1, hR, hX, hS, decide_eq_true h3, decide_eq_true h4] at this
                cases this
              · omega)
            rcases fitS_yes hS with s1 | ⟨s1, s2⟩
            all_goals
              go_enter Tryz.func3, Tryz.ntmps3
              go_wp2_with fail
              refine HFD.out.mono ?_
              rintro e w1 ⟨rfl, hb⟩
              have HBa := hid (show Below (w.heap.size + 1 + 1) _ w1 from hb.mono (by simp))
              obtain ⟨⟨f0, f1, f2⟩, ⟨m0, m1⟩, _, wz⟩ := bx32 HBa.out
              have HBw := hid (HB1.out.trans (hb.mono HB1.out.size))
              have HL1 := hid (fun n => long_any R _ (w1.drewN n) (HRR.out.below (below_drawn_of HBw.out n)))
              have HL2 := hid (fun n => long_any X _ (w1.drewN n) (HXX.out.below (below_drawn_of HBw.out n)))
              rw [hR] at HL1
              rw [hX] at HL2
              clear hb
              go_wp2_with fail
              go_quiet (first
                | (go_at_call_of 5 (Value.slice vp R.length vc); refine (HL1.out _).mono fun e w' h => ⟨h.1, _, h.2⟩)
                | (go_at_call_of 5 (Value.slice up X.length uc); refine (HL2.out _).mono fun e w' h => ⟨h.1, _, h.2⟩))
              go_wp2_with fail
              go_ret
              exact ⟨rfl, below_drawn_of HBw.out _⟩
          · have q3 : decide ((90 : Int) < (m.1.size : Int)) = true := decide_eq_true (by omega)
            rcases fitS_yes hS with s1 | ⟨s1, s2⟩
            all_goals
              go_enter Tryz.func3, Tryz.ntmps3
              go_wp2_with fail
              refine HFD.out.mono ?_
              rintro e w1 ⟨rfl, hb⟩
              have HBa := hid (show Below (w.heap.size + 1 + 1) _ w1 from hb.mono (by simp))
              obtain ⟨⟨f0, f1, f2⟩, ⟨m0, m1⟩, _, wz⟩ := bx32 HBa.out
              have HBw := hid (HB1.out.trans (hb.mono HB1.out.size))
              have HL1 := hid (fun n => long_any R _ (w1.drewN n) (HRR.out.below (below_drawn_of HBw.out n)))
              have HL2 := hid (fun n => long_any X _ (w1.drewN n) (HXX.out.below (below_drawn_of HBw.out n)))
              rw [hR] at HL1
              rw [hX] at HL2
              clear hb
              go_wp2_with fail
              go_quiet (first
                | (go_at_call_of 5 (Value.slice vp R.length vc); refine (HL1.out _).mono fun e w' h => ⟨h.1, _, h.2⟩)
                | (go_at_call_of 5 (Value.slice up X.length uc); refine (HL2.out _).mono fun e w' h => ⟨h.1, _, h.2⟩))
              go_wp2_with fail
              go_ret
              exact ⟨rfl, below_drawn_of HBw.out _⟩
  · have q1 : decide ((90 : Int) < (p.size : Int)) = true := decide_eq_true (by omega)
    go_enter Tryz.func3, Tryz.ntmps3
    go_wp2_with fail
    refine HFD.out.mono ?_
    rintro e w1 ⟨rfl, hb⟩
    have HBa := hid (show Below (w.heap.size + 1 + 1) _ w1 from hb.mono (by simp))
    obtain ⟨⟨f0, f1, f2⟩, ⟨m0, m1⟩, _, wz⟩ := bx32 HBa.out
    have HBw := hid (HB1.out.trans (hb.mono HB1.out.size))
    have HL1 := hid (fun n => long_any R _ (w1.drewN n) (HRR.out.below (below_drawn_of HBw.out n)))
    have HL2 := hid (fun n => long_any X _ (w1.drewN n) (HXX.out.below (below_drawn_of HBw.out n)))
    clear hb
    go_wp2_with fail
    go_quiet (first
      | (go_at_call_of 5 (Value.slice vp R.length vc); refine (HL1.out _).mono fun e w' h => ⟨h.1, _, h.2⟩)
      | (go_at_call_of 5 (Value.slice up X.length uc); refine (HL2.out _).mono fun e w' h => ⟨h.1, _, h.2⟩))
    go_wp2_with fail
    go_ret
    exact ⟨rfl, below_drawn_of HBw.out _⟩
end Ve
end Go.Proofs.YtjphlclhkaoipaaGreatDoor

/-
  What the document's answer writes of a file (FileText); nothing old in memory turns.
-/
namespace Go.Proofs.YtjphlclhkaoipaaGreatDoor
open Go.RowKit
namespace Ve

set_option maxHeartbeats 1000000 in
set_option maxRecDepth 100000 in
theorem rtext_bad (p : ByteArray) (R X : List Bm) (v u : Value) (w : World) (hp : p.size < 999999) (F : Fl w R X v u) (h : (fileF p R X).1 ≠ 0) :
    Calls Tryz.prog 11 #[.agg #[.string p, v, u]] w fun e w' => e = .returned (.string ⟨#[]⟩) ∧ Below w.heap.size w w' := by
  obtain ⟨⟨vp, vc, rfl⟩, up, uc, rfl⟩ := F.slices
  have HB0 := hid ((Below.refl w.heap.size w).alloc (Nat.le_refl _) (.cells #[.string p, .slice vp R.length vc, .slice up X.length uc] 24))
  have HFF := hid (ffault_any p R X _ _ _ hp (F.below HB0.out))
  have hpos : (0 : Int) < ((fileF p R X).1 : Int) := by omega
  unfold faultV at HFF
  generalize (fileF p R X).1 = z at *
  generalize atOf (fileF p R X).2 = y at *
  have hfd := fld0 z y
  clear F h
  go_enter Tryz.func11, Tryz.ntmps11
  go_wp2_with fail
  refine HFF.out.mono ?_
  rintro e w1 ⟨rfl, hb⟩
  have HB := hid (HB0.out.trans (hb.mono HB0.out.size))
  clear hb
  go_wp2_with fail
  go_ret
  exact ⟨rfl, HB.out⟩
theorem tx_head (p : ByteArray) : ((⟨#[109, 111, 100, 117, 108, 101, 32]⟩ : ByteArray) ++ p ++ ⟨#[10]⟩).data.toList = wModule ++ 32 :: p.data.toList ++ [10] := by simp [wModule]
theorem tx_len (p : ByteArray) : (wModule ++ 32 :: p.data.toList ++ [10]).length = p.size + 8 := by
  rw [List.length_append, List.length_append, List.length_cons, len_eq]
  show 6 + (p.size + 1) + 1 = p.size + 8
  omega
theorem tx_req (T p v : ByteArray) : (T ++ ⟨#[114, 101, 113, 117, 105, 114, 101, 32]⟩ ++ p ++ ⟨#[32]⟩ ++ v ++ ⟨#[10]⟩).data.toList = T.data.toList ++ (lineOf wRequire (p, v) ++ [10]) := by simp [lineOf, wRequire]
theorem tx_ex (T p v : ByteArray) : (T ++ ⟨#[101, 120, 99, 108, 117, 100, 101, 32]⟩ ++ p ++ ⟨#[32]⟩ ++ v ++ ⟨#[10]⟩).data.toList = T.data.toList ++ (lineOf wExclude (p, v) ++ [10]) := by simp [lineOf, wExclude]
theorem tx_next {L : List Bm} {k : Nat} (h : k < L.length) (word : List UInt8) : ended ((L.take (k + 1)).map (lineOf word)) = ended ((L.take k).map (lineOf word)) ++ (lineOf word L[k] ++ [10]) := by rw [take_next h, ended_snoc]
theorem bt_eq {T : ByteArray} {l : List UInt8} (h : T.data.toList = l) : T = bt l := by rw [← h, bt_of]

set_option maxHeartbeats 4000000 in
set_option maxRecDepth 100000 in
theorem rtext_ok (p : ByteArray) (R X : List Bm) (v u : Value) (w : World) (hp : p.size < 999999) (F : Fl w R X v u) (h : (fileF p R X).1 = 0) :
    Calls Tryz.prog 11 #[.agg #[.string p, v, u]] w fun e w' => e = .returned (.string (bt (fText (p, R, X)))) ∧ Below w.heap.size w w' := by
  obtain ⟨⟨vp, vc, rfl⟩, up, uc, rfl⟩ := F.slices
  have HB0 := hid ((Below.refl w.heap.size w).alloc (Nat.le_refl _) (.cells #[.string p, .slice vp R.length vc, .slice up X.length uc] 24))
  have HFF := hid (ffault_any p R X _ _ _ hp (F.below HB0.out))
  unfold faultV at HFF
  rw [h] at HFF
  generalize atOf (fileF p R X).2 = y at *
  have HTX := hid (fText_is p R X)
  have HFL := hid (F.below HB0.out)
  have hRn := F.rn
  have hXn := F.xn
  have hfd := fld0 0 y
  clear F h
  go_enter Tryz.func11, Tryz.ntmps11
  go_wp2_with fail
  refine HFF.out.mono ?_
  rintro e w1 ⟨rfl, hb⟩
  obtain ⟨⟨r0, r1, r2⟩, rz⟩ := res3 (hb.mono (by simp))
  have HB := hid (HB0.out.trans (hb.mono HB0.out.size))
  have HF1 := hid (HFL.out.below hb)
  have HH := hid (tx_head p)
  have HR0 := hid r0
  have HR1 := hid r1
  have HR2 := hid r2
  clear hb
  go_wp2_with fail
  clear r0 r1 r2
  go_loopw [3, 4] (fun s i wr => ∃ (k : Nat) (T : ByteArray), Hid (Below w1.heap.size w1 wr) ∧ k ≤ R.length ∧ i = .int .i64 k ∧ s = .string T ∧ Hid (T.data.toList = wModule ++ 32 :: p.data.toList ++ [10] ++ ended ((R.take k).map (lineOf wRequire)))) (fun _ i _ => R.length - (intOf i).toNat)
  case atStart => exact ⟨0, _, hid (Below.refl _ _), Nat.zero_le _, rfl, rfl, hid (by rw [HH.out]; simp [ended])⟩
  case round =>
    obtain ⟨k, T, HBr, hk, rfl, rfl, HT⟩ := hrel
    have q0 := cell_below HBr.out HR0.out
    have q1 := cell_below HBr.out HR1.out
    have q2 := cell_below HBr.out HR2.out
    by_cases hlt : k < R.length
    · obtain ⟨b, o, rfl, hc⟩ := HF1.out.r.at (by omega)
      have hx := cell_below HBr.out (hc k hlt).1
      have hy := cell_below HBr.out (hc k hlt).2
      have hkI : (k : Int) < (R.length : Int) := by omega
      have HN := hid (tx_next hlt wRequire)
      have HS1 := hid (HF1.out.rs R[k] (List.getElem_mem hlt))
      have HLT := hid hlt
      generalize R[k] = x at *
      obtain ⟨p1, v1⟩ := x
      have HQ := hid (tx_req T p1 v1)
      have hTs : T.size ≤ 4000000000000 := by
        have h1 := congrArg List.length HT.out
        have h2 := ended_bd HF1.out.rs (word := wRequire) (by decide) k
        have h5 := tx_len p
        rw [List.length_append, len_eq] at h1
        omega
      have hps : p1.size < 999999 := HS1.out.1
      have hvs : v1.size < 999999 := HS1.out.2
      clear hlt hc
      go_wp2_with fail
      go_quiet (fail)
      go_wp2_with fail
      go_roundw
      case rel => exact ⟨k + 1, _, hid (below_drawn_of HBr.out _), by have := HLT.out; omega, by go_num, rfl, hid (by rw [HQ.out, HT.out, HN.out, List.append_assoc])⟩
      case measure => have := HLT.out; simp [intOf]; omega
    · have HT1 := hid (show T.data.toList = wModule ++ 32 :: p.data.toList ++ [10] ++ ended (R.map (lineOf wRequire)) by rw [HT.out, List.take_of_length_le (by omega)])
      go_wp2_with fail
      go_loopw [3, 5] (fun s i wr => ∃ (k : Nat) (T : ByteArray), Hid (Below w1.heap.size w1 wr) ∧ k ≤ X.length ∧ i = .int .i64 k ∧ s = .string T ∧ Hid (T.data.toList = wModule ++ 32 :: p.data.toList ++ [10] ++ ended (R.map (lineOf wRequire)) ++ ended ((X.take k).map (lineOf wExclude)))) (fun _ i _ => X.length - (intOf i).toNat)
      case atStart => exact ⟨0, _, HBr, Nat.zero_le _, rfl, rfl, hid (by rw [HT1.out]; simp [ended])⟩
      case round =>
        obtain ⟨k2, T2, HBq, hk2, rfl, rfl, HT2⟩ := hrel
        clear q0 q1 q2
        have q0 := cell_below HBq.out HR0.out
        have q1 := cell_below HBq.out HR1.out
        have q2 := cell_below HBq.out HR2.out
        by_cases hlt2 : k2 < X.length
        · obtain ⟨b, o, rfl, hc⟩ := HF1.out.x.at (by omega)
          have hx := cell_below HBq.out (hc k2 hlt2).1
          have hy := cell_below HBq.out (hc k2 hlt2).2
          have hkI : (k2 : Int) < (X.length : Int) := by omega
          have HN := hid (tx_next hlt2 wExclude)
          have HS1 := hid (HF1.out.xs X[k2] (List.getElem_mem hlt2))
          have HLT := hid hlt2
          generalize X[k2] = x at *
          obtain ⟨p1, v1⟩ := x
          have HQ := hid (tx_ex T2 p1 v1)
          have hTs : T2.size ≤ 9000000000000 := by
            have h1 := congrArg List.length HT2.out
            have h2 := ended_bd HF1.out.xs (word := wExclude) (by decide) k2
            have h3 := ended_bd HF1.out.rs (word := wRequire) (by decide) R.length
            rw [List.take_of_length_le (Nat.le_refl _)] at h3
            have h5 := tx_len p
            rw [List.length_append, List.length_append, len_eq] at h1
            omega
          have hps : p1.size < 999999 := HS1.out.1
          have hvs : v1.size < 999999 := HS1.out.2
          clear hlt2 hc
          go_wp2_with fail
          go_quiet (fail)
          go_wp2_with fail
          go_roundw
          case rel => exact ⟨k2 + 1, _, hid (below_drawn_of HBq.out _), by have := HLT.out; omega, by go_num, rfl, hid (by rw [HQ.out, HT2.out, HN.out, List.append_assoc])⟩
          case measure => have := HLT.out; simp [intOf]; omega
        · have HT3 := hid (show T2 = bt (fText (p, R, X)) from bt_eq (by rw [HT2.out, HTX.out, List.take_of_length_le (by omega)]))
          go_wp2_with fail
          go_ret
          exact ⟨by rw [← HT3.out]; rfl, HB.out.trans (HBq.out.mono HB.out.size)⟩
end Ve
end Go.Proofs.YtjphlclhkaoipaaGreatDoor

/-
  Plain: a module set among requirements that rise, one behind the other; dropped ones.
-/
namespace Go.Proofs.YtjphlclhkaoipaaGreatDoor
open Go.RowKit
namespace Ve

/-- Is one of them no less than the module? -/
def stD (l : List Bm) (m : Bm) : Bool := !(l.all fun y => lt y.1 m.1)
/-- What is set so far. -/
def stO (l : List Bm) (m : Bm) : List Bm := if stD l m then loR l m.1 ++ m :: hiR l m.1 else l
theorem stD_nil (m : Bm) : stD [] m = false := rfl
theorem stO_nil (m : Bm) : stO [] m = [] := rfl
theorem stD_snoc (l : List Bm) (x m : Bm) : stD (l ++ [x]) m = (stD l m || !lt x.1 m.1) := by
  unfold stD
  rw [List.all_append]
  simp [Bool.not_and]
theorem loR_snoc (l : List Bm) (x : Bm) (p : ByteArray) : loR (l ++ [x]) p = loR l p ++ (if lt x.1 p then [x] else []) := by
  unfold loR
  rw [List.filter_append]
  simp [List.filter_cons]
theorem hiR_snoc (l : List Bm) (x : Bm) (p : ByteArray) : hiR (l ++ [x]) p = hiR l p ++ (if lt p x.1 then [x] else []) := by
  unfold hiR
  rw [List.filter_append]
  simp [List.filter_cons]
theorem st_all {l : List Bm} {m : Bm} (h : stD l m = false) : ∀ y, y ∈ l → lt y.1 m.1 = true := by
  unfold stD at h
  have h : l.all (fun y => lt y.1 m.1) = true := by simpa using h
  exact List.all_eq_true.1 h
theorem st_lo {l : List Bm} {m : Bm} (h : stD l m = false) : loR l m.1 = l ∧ hiR l m.1 = [] := by
  have ha := st_all h
  constructor
  · exact List.filter_eq_self.2 ha
  · unfold hiR
    rw [List.filter_eq_nil_iff]
    intro y hy
    rw [lt_asymm (ha y hy)]; decide
theorem st_hi {l : List Bm} {m x : Bm} (h : stD l m = true) (hr : ∀ y, y ∈ l → lt y.1 x.1 = true) : lt m.1 x.1 = true := by
  unfold stD at h
  have h : l.all (fun y => lt y.1 m.1) = false := by simpa using h
  obtain ⟨y, hy, hn⟩ := List.all_eq_false.1 h
  have hn : lt y.1 m.1 = false := by simpa using hn
  rcases lt_three y.1 m.1 with h1 | h1 | h1
  · rw [hn] at h1; cases h1
  · rw [← h1]; exact hr y hy
  · exact lt_trans h1 (hr y hy)
/-- One more that is less. -/
theorem st_a {l : List Bm} {m x : Bm} (h : stD l m = false) (hx : lt x.1 m.1 = true) : stD (l ++ [x]) m = false ∧ stO (l ++ [x]) m = stO l m ++ [x] := by
  have h1 : stD (l ++ [x]) m = false := by rw [stD_snoc, h, hx]; rfl
  refine ⟨h1, ?_⟩
  unfold stO
  rw [h1, h]; rfl
/-- One more with that path. -/
theorem st_b {l : List Bm} {m x : Bm} (h : stD l m = false) (hx : x.1 = m.1) : stD (l ++ [x]) m = true ∧ stO (l ++ [x]) m = stO l m ++ [m] := by
  have hl : lt x.1 m.1 = false := by rw [hx]; exact lt_irrefl _
  have hl2 : lt m.1 x.1 = false := by rw [hx]; exact lt_irrefl _
  have h1 : stD (l ++ [x]) m = true := by rw [stD_snoc, h, hl]; rfl
  refine ⟨h1, ?_⟩
  unfold stO
  rw [h1, h, loR_snoc, hiR_snoc, hl, hl2, (st_lo h).1, (st_lo h).2]
  simp
/-- The first one that is greater. -/
theorem st_c {l : List Bm} {m x : Bm} (h : stD l m = false) (hx : lt m.1 x.1 = true) : stD (l ++ [x]) m = true ∧ stO (l ++ [x]) m = stO l m ++ [m] ++ [x] := by
  have hl : lt x.1 m.1 = false := lt_asymm hx
  have h1 : stD (l ++ [x]) m = true := by rw [stD_snoc, h, hl]; rfl
  refine ⟨h1, ?_⟩
  unfold stO
  rw [h1, h, loR_snoc, hiR_snoc, hl, hx, (st_lo h).1, (st_lo h).2]
  simp
/-- One more behind it. -/
theorem st_d {l : List Bm} {m x : Bm} (h : stD l m = true) (hr : ∀ y, y ∈ l → lt y.1 x.1 = true) : stD (l ++ [x]) m = true ∧ stO (l ++ [x]) m = stO l m ++ [x] := by
  have hx := st_hi h hr
  have h1 : stD (l ++ [x]) m = true := by rw [stD_snoc, h]; rfl
  refine ⟨h1, ?_⟩
  unfold stO
  rw [h1, h, loR_snoc, hiR_snoc, lt_asymm hx, hx]
  simp
theorem st_end (R : List Bm) (m : Bm) : (if stD R m then stO R m else stO R m ++ [m]) = setR R m := by
  unfold stO setR
  cases h : stD R m
  · rw [(st_lo h).1, (st_lo h).2]; simp
  · simp
theorem rising_take {R : List Bm} (h : rising R) {k : Nat} (hk : k < R.length) : ∀ y, y ∈ R.take k → lt y.1 R[k].1 = true := by
  intro y hy
  obtain ⟨i, hi, e⟩ := List.getElem_of_mem hy
  have hik : i < k := by rw [List.length_take] at hi; omega
  rw [List.getElem_take] at e
  subst e
  exact List.pairwise_iff_getElem.1 h i k (by omega) hk hik
theorem stO_len (l : List Bm) (m : Bm) : (stO l m).length ≤ l.length + 1 + l.length := by
  unfold stO
  split
  · rw [List.length_append, List.length_cons]
    have h1 : (loR l m.1).length ≤ l.length := List.length_filter_le _ _
    have h2 : (hiR l m.1).length ≤ l.length := List.length_filter_le _ _
    omega
  · omega
/-- What is left without a path. -/
def lft (l : List Bm) (p : ByteArray) : List Bm := l.filter fun m => decide (m.1 ≠ p)
theorem lft_yes {l : List Bm} {x : Bm} {p : ByteArray} (h : ¬ x.1 = p) : lft (l ++ [x]) p = lft l p ++ [x] := by
  unfold lft; rw [List.filter_append]; simp [h]
theorem lft_no {l : List Bm} {x : Bm} {p : ByteArray} (h : x.1 = p) : lft (l ++ [x]) p = lft l p := by
  unfold lft; rw [List.filter_append]; simp [h]
theorem lft_len (l : List Bm) (p : ByteArray) : (lft l p).length ≤ l.length := List.length_filter_le _ _
/-- A number, and a file: none where there is an error. -/
def outS (p : ByteArray) (X : List Bm) (r : Except Nat (List Bm)) : Nat × Fs := match r with
  | .error c => (c, noFile)
  | .ok R' => (0, (p, R', X))
theorem ms_nil (w : World) : MsAt w (.slice none 0 0) [] := ⟨none, 0, rfl, Nat.le_refl _, fun h => absurd rfl h⟩
end Ve
end Go.Proofs.YtjphlclhkaoipaaGreatDoor
