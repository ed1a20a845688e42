/-
  What LongMods, SameMods, SameFile, FindPath and filed answer; nothing old in memory turns.
-/
import Derived.Test.YtmgpbejekglipabGreatDoorJn20
import Derived.Test.YtmgpbejekglipabGreatDoorJn16
import Derived.KernelRfl
import Derived.Test.YtmgpbejekglipabGreatDoorJn10
import Derived.Test.YtmgpbejekglipabGreatDoorJn8
import Derived.Test.YtmgpbejekglipabGreatDoorJn11
namespace Go.Proofs.YtmgpbejekglipabGreatDoor
open Go.RowKit
namespace Ve

/-- Not too many modules, none too long. -/
def okM (m : Bm) : Bool := decide (m.1.size ≤ 70) && decide (m.2.size ≤ 60)
def okL (L : List Bm) : Bool := decide (L.length ≤ 25) && L.all okM
theorem okL_iff {L : List Bm} (h : okL L = true) : L.length ≤ 25 ∧ ∀ m, m ∈ L → m.1.size ≤ 70 ∧ m.2.size ≤ 60 := by
  unfold okL at h
  rw [Bool.and_eq_true] at h
  refine ⟨of_decide_eq_true h.1, fun m hm => ?_⟩
  have := List.all_eq_true.1 h.2 m hm
  unfold okM at this
  rw [Bool.and_eq_true] at this
  exact ⟨of_decide_eq_true this.1, of_decide_eq_true this.2⟩
theorem all_take_next {L : List Bm} {k : Nat} (hk : k < L.length) (h : (L.take k).all okM = true) (hm : okM L[k] = true) : (L.take (k + 1)).all okM = true := by
  rw [List.take_succ_eq_append_getElem hk, List.all_append, h]
  simp [hm]
theorem all_not {L : List Bm} {k : Nat} (hk : k < L.length) (hm : okM L[k] = false) : L.all okM = false := by
  cases e : L.all okM
  · rfl
  · have := List.all_eq_true.1 e L[k] (List.getElem_mem hk)
    rw [hm] at this; cases this
set_option maxHeartbeats 1000000 in
theorem long_some (L : List Bm) (b o c : Nat) (w : World) (hn : L.length ≤ 25)
    (hc : ∀ j (h : j < L.length), w.cell? ⟨b, o + j * 2, none⟩ = some (.string L[j].1) ∧ w.cell? ⟨b, o + j * 2 + 1, none⟩ = some (.string L[j].2)) :
    Calls Tryz.prog 8 #[.slice (some ⟨b, o, none⟩) L.length c, .int .i64 25] w fun e w' => e = .returned (.int .i64 (if okL L then 0 else 1)) ∧ w' = w := by
  have HC := hid hc
  have HO := hid (show okL L = L.all okM by unfold okL; rw [decide_eq_true hn, Bool.true_and])
  have hn2 : ¬ (25 : Int) < (L.length : Int) := by omega
  generalize hr : (if okL L then (0 : Int) else 1) = r
  have HR := hid hr
  clear hc hr
  go_enter Tryz.func8, Tryz.ntmps8
  go_wp2_with fail
  go_loop [5] (fun i => ∃ k : Nat, k ≤ L.length ∧ i = .int .i64 k ∧ Hid ((L.take k).all okM = true)) (fun i => L.length - (intOf i).toNat)
  case atStart => exact ⟨0, Nat.zero_le _, rfl, hid rfl⟩
  case round =>
    obtain ⟨k, hk, rfl, HA⟩ := hrel
    by_cases hlt : k < L.length
    · have hx := (HC.out k hlt).1
      have hy := (HC.out k hlt).2
      have HN := hid (fun h => all_take_next hlt HA.out h)
      have HX := hid (fun h => all_not hlt h)
      have HLT := hid hlt
      have hkI : (k : Int) < (L.length : Int) := by omega
      generalize L[k] = x at *
      clear hlt
      obtain ⟨p, v⟩ := x
      by_cases h1 : p.size ≤ 70
      · have h1' : ¬ (70 : Int) < (p.size : Int) := by omega
        by_cases h2 : v.size ≤ 60
        · have h2' : ¬ (60 : Int) < (v.size : Int) := by omega
          have HT := hid (HN.out (by unfold okM; rw [decide_eq_true h1, decide_eq_true h2]; rfl))
          go_wp2_with fail
          go_round
          case rel => exact ⟨k + 1, by have := HLT.out; omega, by go_num, HT⟩
          case measure => have := HLT.out; simp [intOf]; omega
        · have h2' : (60 : Int) < (v.size : Int) := by omega
          have HT := hid (HX.out (by unfold okM; rw [decide_eq_true h1, decide_eq_false h2]; rfl))
          go_wp2_with fail
          go_ret
          exact ⟨by rw [← HR.out, HO.out, HT.out]; rfl, rfl⟩
      · have h1' : (70 : Int) < (p.size : Int) := by omega
        have HT := hid (HX.out (by unfold okM; rw [decide_eq_false h1]; rfl))
        go_wp2_with fail
        go_ret
        exact ⟨by rw [← HR.out, HO.out, HT.out]; rfl, rfl⟩
    · have HT := hid (show L.all okM = true by have := HA.out; rw [List.take_of_length_le (by omega)] at this; exact this)
      go_wp2_with fail
      go_ret
      exact ⟨by rw [← HR.out, HO.out, HT.out]; rfl, rfl⟩
theorem long_none (a : Option Addr) (c : Nat) (w : World) : Calls Tryz.prog 8 #[.slice a 0 c, .int .i64 25] w fun e w' => e = .returned (.int .i64 0) ∧ w' = w := by
  go_enter Tryz.func8, Tryz.ntmps8
  go_wp2_with fail
  go_loop [5] (fun i => i = .int .i64 0) (fun i => 0)
  case atStart => exact rfl
  case round =>
    obtain rfl := hrel
    go_wp2_with fail
    go_ret
    exact ⟨rfl, rfl⟩
theorem long_many (a : Option Addr) (n c : Nat) (w : World) (hn : 25 < n) : Calls Tryz.prog 8 #[.slice a n c, .int .i64 25] w fun e w' => e = .returned (.int .i64 1) ∧ w' = w := by
  have hn2 : (25 : Int) < (n : Int) := by omega
  go_enter Tryz.func8, Tryz.ntmps8
  go_wp2_with fail
  go_ret
  exact ⟨rfl, rfl⟩
theorem long_any (L : List Bm) (v : Value) (w : World) (hv : MsAt w v L) : Calls Tryz.prog 8 #[v, .int .i64 25] w fun e w' => e = .returned (.int .i64 (if okL L then 0 else 1)) ∧ w' = w := by
  obtain ⟨a, c, rfl, _, h⟩ := hv
  by_cases hn : L.length ≤ 25
  · cases L with
    | nil => exact long_none a c w
    | cons x r =>
      obtain ⟨b, o, rfl, h2⟩ := h (by simp)
      exact long_some (x :: r) b o c w hn h2
  · have : okL L = false := by unfold okL; rw [decide_eq_false hn]; rfl
    rw [this]
    exact long_many a L.length c w (by omega)

set_option maxHeartbeats 1000000 in
theorem sameM_some (L : List Bm) (b o c b' o' c' : Nat) (w : World) (hn : L.length ≤ 1000000)
    (hc : ∀ j (h : j < L.length), w.cell? ⟨b, o + j * 2, none⟩ = some (.string L[j].1) ∧ w.cell? ⟨b, o + j * 2 + 1, none⟩ = some (.string L[j].2))
    (hd : ∀ j (h : j < L.length), w.cell? ⟨b', o' + j * 2, none⟩ = some (.string L[j].1) ∧ w.cell? ⟨b', o' + j * 2 + 1, none⟩ = some (.string L[j].2)) :
    Calls Tryz.prog 58 #[.slice (some ⟨b, o, none⟩) L.length c, .slice (some ⟨b', o', none⟩) L.length c'] w fun e w' => e = .returned (.bool true) ∧ Below w.heap.size w w' := by
  have HC := hid hc
  have HD := hid hd
  have hgd := modGuard
  clear hc hd
  go_enter Tryz.func58, Tryz.ntmps58
  go_wp2_with fail
  go_loopw [5] (fun i wr => ∃ k : Nat, k ≤ L.length ∧ i = .int .i64 k ∧ Hid (Below w.heap.size w wr)) (fun i _ => L.length - (intOf i).toNat)
  case atStart => exact ⟨0, Nat.zero_le _, rfl, hid (Below.refl _ _)⟩
  case round =>
    obtain ⟨k, hk, rfl, HB⟩ := hrel
    by_cases hlt : k < L.length
    · have hx := cell_below HB.out (HC.out k hlt).1
      have hy := cell_below HB.out (HC.out k hlt).2
      have hx' := cell_below HB.out (HD.out k hlt).1
      have hy' := cell_below HB.out (HD.out k hlt).2
      have hne := fun W => modNeq L[k].1 L[k].2 L[k].1 L[k].2 W
      rw [decide_eq_true ⟨rfl, rfl⟩, Bool.not_true] at hne
      have hkI : (k : Int) < (L.length : Int) := by omega
      go_wp2_with fail
      go_quiet (fail)
      go_wp2_with fail
      go_roundw
      case rel => exact ⟨k + 1, by omega, by go_num, hid (below_drawn_of HB.out _)⟩
      case measure => simp [intOf]; omega
    · go_wp2_with fail
      go_ret
      exact ⟨rfl, HB.out⟩
theorem sameM_none (a a' : Option Addr) (c c' : Nat) (w : World) : Calls Tryz.prog 58 #[.slice a 0 c, .slice a' 0 c'] w fun e w' => e = .returned (.bool true) ∧ Below w.heap.size w w' := by
  go_enter Tryz.func58, Tryz.ntmps58
  go_wp2_with fail
  go_loopw [5] (fun i wr => i = .int .i64 0 ∧ wr = w) (fun i _ => 0)
  case atStart => exact ⟨rfl, rfl⟩
  case round =>
    obtain ⟨rfl, rfl⟩ := hrel
    go_wp2_with fail
    go_ret
    exact ⟨rfl, Below.refl _ _⟩
theorem sameM_any (L : List Bm) (v u : Value) (w : World) (hn : L.length ≤ 1000000) (hv : MsAt w v L) (hu : MsAt w u L) : Calls Tryz.prog 58 #[v, u] w fun e w' => e = .returned (.bool true) ∧ Below w.heap.size w w' := by
  obtain ⟨a, c, rfl, _, h⟩ := hv
  obtain ⟨a', c', rfl, _, h'⟩ := hu
  cases L with
  | nil => exact sameM_none a a' c c' w
  | cons x r =>
    obtain ⟨b, o, rfl, h2⟩ := h (by simp)
    obtain ⟨b', o', rfl, h3⟩ := h' (by simp)
    exact sameM_some (x :: r) b o c b' o' c' w hn h2 h3
/-- Where a path is among modules: the first place, or none. -/
def FpP (L : List Bm) (p : ByteArray) (r : Int) : Prop := (r = -1 ∧ ∀ j (h : j < L.length), L[j].1 ≠ p) ∨ ∃ k : Nat, r = k ∧ ∃ h : k < L.length, L[k].1 = p
/-- That place, as a function. -/
def fpE (L : List Bm) (p : ByteArray) (i : Nat) : Nat := match L[i]? with
  | some m => if m.1 = p then 1 else 0
  | none => 0
def fpOf (L : List Bm) (p : ByteArray) : Int := match fstE (fpE L p) L.length with
  | some k => (k : Int)
  | none => -1
theorem fpE_at {L : List Bm} {p : ByteArray} {i : Nat} (h : i < L.length) : fpE L p i = if L[i].1 = p then 1 else 0 := by unfold fpE; rw [List.getElem?_eq_getElem h]
theorem fpE_zero {L : List Bm} {p : ByteArray} {n : Nat} (hn : n ≤ L.length) (h : ∀ j (hj : j < L.length), j < n → L[j].1 ≠ p) : ∀ j, j < n → fpE L p j = 0 := fun j hj => by rw [fpE_at (by omega), if_neg (h j (by omega) hj)]
theorem fpOf_P (L : List Bm) (p : ByteArray) : FpP L p (fpOf L p) := by
  unfold fpOf
  cases h : fstE (fpE L p) L.length with
  | none =>
    refine Or.inl ⟨rfl, fun j hj e => ?_⟩
    have := fstE_of_none h j hj
    rw [fpE_at hj, if_pos e] at this; cases this
  | some k =>
    obtain ⟨h1, h2, _⟩ := fstE_of_some h
    refine Or.inr ⟨k, rfl, h1, ?_⟩
    rw [fpE_at h1] at h2
    by_cases e : L[k].1 = p
    · exact e
    · rw [if_neg e] at h2; exact absurd rfl h2
set_option maxHeartbeats 1000000 in
theorem fp_some (L : List Bm) (p : ByteArray) (b o c : Nat) (w : World) (hn : L.length ≤ 1000000)
    (hc : ∀ j (h : j < L.length), w.cell? ⟨b, o + j * 2, none⟩ = some (.string L[j].1) ∧ w.cell? ⟨b, o + j * 2 + 1, none⟩ = some (.string L[j].2)) :
    Calls Tryz.prog 23 #[.slice (some ⟨b, o, none⟩) L.length c, .string p] w fun e w' => e = .returned (.int .i64 (fpOf L p)) ∧ w' = w := by
  have HC := hid hc
  generalize hr : fpOf L p = r
  have HR := hid hr
  clear hc hr
  go_enter Tryz.func23, Tryz.ntmps23
  go_wp2_with fail
  go_loop [5] (fun i => ∃ k : Nat, k ≤ L.length ∧ i = .int .i64 k ∧ Hid (∀ j (h : j < L.length), j < k → L[j].1 ≠ p)) (fun i => L.length - (intOf i).toNat)
  case atStart => exact ⟨0, Nat.zero_le _, rfl, hid (fun j _ hj => absurd hj (by omega))⟩
  case round =>
    obtain ⟨k, hk, rfl, HA⟩ := hrel
    by_cases hlt : k < L.length
    · have hx := (HC.out k hlt).1
      have hkI : (k : Int) < (L.length : Int) := by omega
      by_cases he : L[k].1 = p
      · have HF := hid (show fpOf L p = k by unfold fpOf; rw [fstE_some (fpE_zero (by omega) HA.out) (by rw [fpE_at hlt, if_pos he]; decide) hlt])
        rw [he] at hx
        have hq := str_refl p
        clear he
        go_wp2_with fail
        go_ret
        exact ⟨by rw [← HR.out, HF.out]; rfl, rfl⟩
      · have hq := str_ne he
        have HE := hid he
        clear he
        go_wp2_with fail
        go_round
        case rel => exact ⟨k + 1, by omega, by go_num, hid (fun j hj hjk => by
          rcases Nat.lt_or_ge j k with h | h
          · exact HA.out j hj h
          · have : j = k := by omega
            subst this; exact HE.out)⟩
        case measure => simp [intOf]; omega
    · have HF := hid (show fpOf L p = -1 by unfold fpOf; rw [fstE_none (fpE_zero (Nat.le_refl _) (fun j hj _ => HA.out j hj (by omega)))])
      go_wp2_with fail
      go_ret
      exact ⟨by rw [← HR.out, HF.out]; rfl, rfl⟩
theorem fp_none (p : ByteArray) (a : Option Addr) (c : Nat) (w : World) : Calls Tryz.prog 23 #[.slice a 0 c, .string p] w fun e w' => e = .returned (.int .i64 (-1)) ∧ w' = w := by
  go_enter Tryz.func23, Tryz.ntmps23
  go_wp2_with fail
  go_loop [5] (fun i => i = .int .i64 0) (fun i => 0)
  case atStart => exact rfl
  case round =>
    obtain rfl := hrel
    go_wp2_with fail
    go_ret
    exact ⟨rfl, rfl⟩
theorem fp_is (L : List Bm) (p : ByteArray) (v : Value) (w : World) (hn : L.length ≤ 1000000) (hv : MsAt w v L) : Calls Tryz.prog 23 #[v, .string p] w fun e w' => e = .returned (.int .i64 (fpOf L p)) ∧ w' = w := by
  obtain ⟨a, c, rfl, _, h⟩ := hv
  cases L with
  | nil => exact fp_none p a c w
  | cons x r =>
    obtain ⟨b, o, rfl, h2⟩ := h (by simp)
    exact fp_some (x :: r) p b o c w hn h2
theorem fp_any (L : List Bm) (p : ByteArray) (v : Value) (w : World) (hn : L.length ≤ 1000000) (hv : MsAt w v L) : Calls Tryz.prog 23 #[v, .string p] w fun e w' => ∃ r, e = .returned (.int .i64 r) ∧ FpP L p r ∧ w' = w :=
  (fp_is L p v w hn hv).mono fun _ _ ⟨h1, h2⟩ => ⟨_, h1, fpOf_P L p, h2⟩
end Ve
end Go.Proofs.YtmgpbejekglipabGreatDoor

/-
  What SameFile and filed answer; nothing old in memory turns.
-/
namespace Go.Proofs.YtmgpbejekglipabGreatDoor
open Go.RowKit
namespace Ve

set_option maxHeartbeats 2000000 in
theorem sameF_any (p : ByteArray) (R X : List Bm) (v u v' u' : Value) (w : World) (F : Fl w R X v u) (F' : Fl w R X v' u') :
    Calls Tryz.prog 17 #[.agg #[.string p, v, u], .agg #[.string p, v', u']] w fun e w' => e = .returned (.bool true) ∧ Below w.heap.size w w' := by
  obtain ⟨⟨vp, vc, rfl⟩, up, uc, rfl⟩ := F.slices
  obtain ⟨⟨vp', vc', rfl⟩, up', uc', rfl⟩ := F'.slices
  have HB1 := hid (((Below.refl w.heap.size w).alloc (Nat.le_refl _) (.cells #[.string p, .slice vp R.length vc, .slice up X.length uc] 24)).alloc (by simp) (.cells #[.string p, .slice vp' R.length vc', .slice up' X.length uc'] 24))
  have HF := hid F
  have HF' := hid F'
  have he := str_refl p
  clear F F'
  go_enter Tryz.func17, Tryz.ntmps17
  go_wp2_with fail
  refine (sameM_any R _ _ _ HF.out.rn (HF.out.r.below HB1.out) (HF'.out.r.below HB1.out)).mono ?_
  rintro e w1 ⟨rfl, hb⟩
  have HBa := hid (show Below (w.heap.size + 1 + 1) _ w1 from hb.mono (by simp))
  have HBw := hid (HB1.out.trans (hb.mono HB1.out.size))
  obtain ⟨⟨q0, q1, q2⟩, ⟨r0, r1, r2⟩, rf, rz⟩ := two3 HBa.out
  clear hb
  go_wp2_with fail
  refine (sameM_any X _ _ _ HF.out.xn (HF.out.x.below HBw.out) (HF'.out.x.below HBw.out)).mono ?_
  rintro e w2 ⟨rfl, hb⟩
  have HBx := hid (HBw.out.trans (hb.mono HBw.out.size))
  clear hb
  go_wp2_with fail
  go_ret
  exact ⟨rfl, HBx.out⟩

/-- The text of the closed fact, and its file. -/
def closedT : List UInt8 := [109, 111, 100, 117, 108, 101, 32, 109, 97, 105, 110, 10, 114, 101, 113, 117, 105, 114, 101, 32, 97, 32, 118, 49, 46, 48, 46, 48, 10, 101, 120, 99, 108, 117, 100, 101, 32, 98, 32, 118, 48, 46, 49, 46, 48, 10]
def closedF : Fs := (bt [109, 97, 105, 110], [(bt [97], bt [118, 49, 46, 48, 46, 48])], [(bt [98], bt [118, 48, 46, 49, 46, 48])])
theorem closed_read : readL closedT = .ok closedF := by kernel_rfl
theorem closed_code : (fileF closedF.1 closedF.2.1 closedF.2.2).1 = 0 := by kernel_rfl
theorem closed_text : fText closedF = closedT := by kernel_rfl
set_option maxHeartbeats 2000000 in
theorem filed_any (A : Nat → Addr) (m : Int) (w : World) (S : Te w A m) :
    Calls Tryz.prog 7 #[] w fun e w' => e = .returned (.bool true) ∧ Below w.heap.size w w' := by
  have HR := hid (fread_ok (bt closedT) closedF A m w S (by decide) (by rw [bt_list]; exact closed_read) closed_code)
  have HS := hid S
  clear S
  go_enter Tryz.func7, Tryz.ntmps7
  go_wp2_with fail
  refine HR.out.mono ?_
  rintro e w1 ⟨v, u, rfl, hv, hu, hb⟩
  have HFL := hid (show Fl w1 closedF.2.1 closedF.2.2 v u from ⟨hv, hu, fun m hm => by
    have : m = (bt [97], bt [118, 49, 46, 48, 46, 48]) := by simpa [closedF] using hm
    rw [this]; decide, fun m hm => by
    have : m = (bt [98], bt [118, 48, 46, 49, 46, 48]) := by simpa [closedF] using hm
    rw [this]; decide, by decide, by decide⟩)
  have HS1 := hid (HS.out.below hb)
  obtain ⟨va, vc, ev, _⟩ := hv
  obtain ⟨ua, uc, eu, _⟩ := hu
  rw [show closedF.2.1.length = 1 from rfl] at ev
  rw [show closedF.2.2.length = 1 from rfl] at eu
  subst ev; subst eu
  have HBa := hid ((Below.refl w1.heap.size w1).alloc (Nat.le_refl _) (.cells #[.string closedF.1, .slice va 1 vc, .slice ua 1 uc] 24))
  have HTX := hid (ftext_ok closedF.1 closedF.2.1 closedF.2.2 _ _ A m _ (by decide) (HS1.out.below HBa.out) (HFL.out.below HBa.out) closed_code)
  rw [show bt (fText (closedF.1, closedF.2.1, closedF.2.2)) = (⟨#[109, 111, 100, 117, 108, 101, 32, 109, 97, 105, 110, 10, 114, 101, 113, 117, 105, 114, 101, 32, 97, 32, 118, 49, 46, 48, 46, 48, 10, 101, 120, 99, 108, 117, 100, 101, 32, 98, 32, 118, 48, 46, 49, 46, 48, 10]⟩ : ByteArray) from congrArg bt closed_text] at HTX
  have he := str_refl (⟨#[109, 111, 100, 117, 108, 101, 32, 109, 97, 105, 110, 10, 114, 101, 113, 117, 105, 114, 101, 32, 97, 32, 118, 49, 46, 48, 46, 48, 10, 101, 120, 99, 108, 117, 100, 101, 32, 98, 32, 118, 48, 46, 49, 46, 48, 10]⟩ : ByteArray)
  have HBw := hid (hb.trans (HBa.out.mono hb.size))
  generalize closedF.1 = P at *
  clear hb
  go_wp2_with fail
  refine HTX.out.mono ?_
  rintro e w2 ⟨rfl, hb⟩
  have HBx := hid (HBw.out.trans (hb.mono HBw.out.size))
  clear hb
  go_wp2_with fail
  go_ret
  exact ⟨rfl, HBx.out⟩
end Ve
end Go.Proofs.YtmgpbejekglipabGreatDoor

/-
  The order on versions turns round, and is nought for one version alone (plain). No Go here.
-/
namespace Go.Proofs.YtmgpbejekglipabGreatDoor
namespace Ve

theorem ordPart_swap (a b : List UInt8) : ordPart b a = -ordPart a b := by
  unfold ordPart
  cases h1 : digs a <;> cases h2 : digs b
  · simp only [Bool.false_eq_true, if_false]; exact cb_swap a b
  · simp
  · simp
  · simp only [if_true]; exact fst_swap (ci_swap _ _) (cb_swap _ _)
theorem ordPart_zero (a b : List UInt8) : ordPart a b = 0 ↔ a = b := by
  unfold ordPart
  cases h1 : digs a <;> cases h2 : digs b
  · simp only [Bool.false_eq_true, if_false]; exact cb_zero a b
  · simp only [Bool.false_eq_true, if_false, if_true]
    constructor
    · intro h; cases h
    · intro h; subst h; rw [h1] at h2; cases h2
  · simp only [Bool.false_eq_true, if_false, if_true]
    constructor
    · intro h; cases h
    · intro h; subst h; rw [h1] at h2; cases h2
  · simp only [if_true]
    rw [fst_zero, cb_zero]
    constructor
    · intro h; exact h.2
    · intro h; subst h; exact ⟨ci_self _, rfl⟩
theorem ordPs_swap : ∀ (a b : List (List UInt8)), ordPs b a = -ordPs a b
  | [], [] => rfl
  | [], _ :: _ => rfl
  | _ :: _, [] => rfl
  | x :: xs, y :: ys => fst_swap (ordPart_swap x y) (ordPs_swap xs ys)
theorem ordPs_zero : ∀ (a b : List (List UInt8)), ordPs a b = 0 ↔ a = b
  | [], [] => by simp [ordPs]
  | [], _ :: _ => by simp [ordPs]
  | _ :: _, [] => by simp [ordPs]
  | x :: xs, y :: ys => by
    unfold ordPs
    rw [fst_zero, ordPart_zero, ordPs_zero xs ys]
    simp
theorem ordPre_swap (a b : List (List UInt8)) : ordPre b a = -ordPre a b := by
  unfold ordPre
  by_cases h : a = [] ∨ b = []
  · rw [if_pos h, if_pos h.symm]; exact ci_swap _ _
  · rw [if_neg h, if_neg (fun k => h k.symm)]; exact ordPs_swap a b
theorem ordPre_zero (a b : List (List UInt8)) : ordPre a b = 0 ↔ a = b := by
  unfold ordPre
  by_cases h : a = [] ∨ b = []
  · rw [if_pos h, ci_zero]
    constructor
    · intro e
      rcases h with h | h
      · subst h; simp at e; exact e.symm
      · subst h; simp at e; exact List.length_eq_zero_iff.1 (by omega)
    · intro e; subst e; rfl
  · rw [if_neg h]; exact ordPs_zero a b
theorem ordV_swap (s t : List UInt8) : ordV t s = -ordV s t :=
  fst_swap (ci_swap _ _) (fst_swap (ci_swap _ _) (fst_swap (ci_swap _ _) (ordPre_swap _ _)))
theorem ordV_zero {s t : List UInt8} (hs : verErr s = 0) (ht : verErr t = 0) : ordV s t = 0 ↔ s = t := by
  unfold ordV ordN
  rw [fst_zero, fst_zero, fst_zero, ci_zero, ci_zero, ci_zero, ordPre_zero]
  constructor
  · rintro ⟨h0, h1, h2, h3⟩
    rw [← text_back s hs, ← text_back t ht, h0, h1, h2, h3]
  · intro h; subst h; exact ⟨rfl, rfl, rfl, rfl⟩
theorem ordV_range (s t : List UInt8) : ordV s t = -1 ∨ ordV s t = 0 ∨ ordV s t = 1 := ordN_range _ _ _ _ _ _ _ _
end Ve
end Go.Proofs.YtmgpbejekglipabGreatDoor

/-
  What a right module's text holds (plain): one sign between path and version, so it is read as it was written; of two unlike right ones one is ahead. No Go here.
-/
namespace Go.Proofs.YtmgpbejekglipabGreatDoor
namespace Ve

theorem mem_cut (c x : UInt8) : ∀ l : List UInt8, x ∈ l → x = c ∨ ∃ p, p ∈ cutAt c l ∧ x ∈ p
  | [], h => by cases h
  | b :: l, h => by
    obtain ⟨y, r, e⟩ : ∃ y r, cutAt c l = y :: r := by
      cases e : cutAt c l with
      | nil => exact absurd e (cutAt_ne c l)
      | cons y r => exact ⟨y, r, rfl⟩
    unfold cutAt
    by_cases hb : b = c
    · rw [if_pos hb]
      rcases List.mem_cons.1 h with h | h
      · exact Or.inl (h.trans hb)
      · rcases mem_cut c x l h with h | ⟨p, hp, hx⟩
        · exact Or.inl h
        · exact Or.inr ⟨p, List.mem_cons_of_mem _ hp, hx⟩
    · rw [if_neg hb, e]
      rcases List.mem_cons.1 h with h | h
      · exact Or.inr ⟨b :: y, by simp [ahead], by simp [h]⟩
      · rcases mem_cut c x l h with h | ⟨p, hp, hx⟩
        · exact Or.inl h
        · rw [e] at hp
          rcases List.mem_cons.1 hp with hp | hp
          · exact Or.inr ⟨b :: y, by simp [ahead], by rw [← hp]; exact List.mem_cons_of_mem _ hx⟩
          · exact Or.inr ⟨p, by simp [ahead, hp], hx⟩
theorem mem_one {c x : UInt8} {l : List UInt8} (h : x ∈ l) : x = c ∨ x ∈ (one c l).1 ∨ ((one c l).2.2 = true ∧ x ∈ (one c l).2.1) := by
  cases e : (one c l).2.2
  · rw [one_none e]; exact Or.inr (Or.inl h)
  · have h2 := h
    rw [one_back e] at h2
    rcases List.mem_append.1 h2 with h3 | h3
    · exact Or.inr (Or.inl h3)
    · rcases List.mem_cons.1 h3 with h4 | h4
      · exact Or.inl h4
      · exact Or.inr (Or.inr ⟨rfl, h4⟩)
theorem path_no {l : List UInt8} {c : UInt8} (h : pathErr l = 0) (hc : el c = false) (h47 : c ≠ 47) : c ∉ l := by
  intro hx
  have hb : badE l = false := by
    cases e : badE l
    · rfl
    · unfold pathErr at h; rw [e] at h; simp at h
  rcases mem_cut 47 c l hx with h | ⟨p, hp, hx⟩
  · exact h47 h
  · have h1 := List.any_eq_false.1 hb p hp
    have ok : elemOk p = true := by simpa using h1
    unfold elemOk at ok
    simp only [Bool.and_eq_true] at ok
    have h2 := List.all_eq_true.1 ok.2.2 c hx
    rw [hc] at h2; cases h2
theorem ver_parts {l : List UInt8} (h : verErr l = 0) : marked l = true ∧ numsErr (coreOf l) = 0 ∧ pre (preOf l) = 0 := by
  unfold verErr at h
  by_cases hc : marked l = false ∨ (coreOf l).length ≠ 3
  · rw [if_pos hc] at h; omega
  rw [if_neg hc] at h
  have hm : marked l = true := by
    cases e : marked l
    · exact absurd (Or.inl e) hc
    · rfl
  refine ⟨hm, ?_⟩
  cases e : hasPre l
  · rw [e] at h
    exact ⟨h, by unfold preOf; rw [e]; rfl⟩
  · rw [e] at h
    have h' : worse (numsErr (coreOf l)) (pre (preOf l)) = 0 := h
    unfold worse at h'
    by_cases q : numsErr (coreOf l) = 1 ∨ pre (preOf l) = 0
    · rw [if_pos q] at h'
      refine ⟨h', ?_⟩
      rcases q with q | q
      · omega
      · exact q
    · rw [if_neg q] at h'; exact absurd (Or.inr h') q
theorem ver_no {l : List UInt8} {c : UInt8} (h : verErr l = 0) (hp : par c = false) (hd : dig c = false) (h1 : c ≠ 118) (h2 : c ≠ 46) (h3 : c ≠ 45) : c ∉ l := by
  intro hx
  obtain ⟨hm, hn, hpr⟩ := ver_parts h
  have hr : c ∈ restOf l := by
    rw [rest_drop hm]
    cases l with
    | nil => cases hx
    | cons b r =>
      have hb : b = 118 := by simpa [marked] using hm
      rcases List.mem_cons.1 hx with e | e
      · exact absurd (e.trans hb) h1
      · simpa using e
  rcases mem_one (c := 45) hr with e | e | ⟨e0, e⟩
  · exact h3 e
  · rcases mem_cut 46 c _ e with e | ⟨p, hp1, hx1⟩
    · exact h2 e
    · have h4 := (num0 (ncode0 hn p hp1)).2.2.2
      have h5 := List.all_eq_true.1 h4 c hx1
      rw [hd] at h5; cases h5
  · rcases mem_cut 46 c _ e with e | ⟨p, hp1, hx1⟩
    · exact h2 e
    · have hpo : preOf l = cutAt 46 (one 45 (restOf l)).2.1 := by unfold preOf; rw [if_pos (show hasPre l = true from e0)]
      rw [← hpo] at hp1
      have h4 := pre_parts hpr p hp1
      unfold part at h4
      split at h4
      · cases h4
      · rename_i hn1
        have h6 : allPar p = true := by
          cases e : allPar p
          · exact absurd (Or.inr (Or.inr e)) hn1
          · rfl
        have h5 := List.all_eq_true.1 h6 c hx1
        rw [hp] at h5; cases h5

theorem mod_right {p v : List UInt8} (h : modErr p v = 0) : pathErr p = 0 ∧ verErr v = 0 := by
  unfold modErr at h
  by_cases h0 : pathErr p = 0
  · rw [if_pos h0] at h
    by_cases h1 : verErr v = 0
    · exact ⟨h0, h1⟩
    · rw [if_neg h1] at h; exact absurd h h1
  · rw [if_neg h0] at h; exact absurd h h0
end Ve
end Go.Proofs.YtmgpbejekglipabGreatDoor
