/-
  FileB Bare LawO
-/
import Derived.Test.YtiebgeamfblbdaaGreatDoorFb23
import Derived.Test.YtiebgeamfblbdaaGreatDoorFb29
import Derived.Test.YtiebgeamfblbdaaGreatDoorFb22
import Derived.Laws.AppendOwnNone
import Derived.Lib.SmallJoins
namespace Go.Proofs.YtiebgeamfblbdaaGreatDoor
open Go.RowKit
namespace Ve
theorem reqW_bad {own : ByteArray} {o : Option Bm} {m : Bm} (h : mErr m ≠ 0) : reqW own o m = mErr m := by unfold reqW; rw [if_neg h]
theorem reqW_own {own : ByteArray} {o : Option Bm} {m : Bm} (h : mErr m = 0) (h2 : m.1 = own) : reqW own o m = 3 := by unfold reqW; rw [if_pos h, if_pos h2]
theorem reqW_none {own : ByteArray} {m : Bm} (h : mErr m = 0) (h2 : ¬ m.1 = own) : reqW own none m = 0 := by unfold reqW; rw [if_pos h, if_neg h2]
theorem reqW_some {own : ByteArray} {p m : Bm} (h : mErr m = 0) (h2 : ¬ m.1 = own) : reqW own (some p) m = if noLess p.1 m.1 then 8 else 0 := by unfold reqW; rw [if_pos h, if_neg h2]
theorem noLess_is (a b : ByteArray) : (!Op.bytesLess a.toList b.toList) = noLess a b := by unfold noLess; rw [cb_less, ByteArray.toList_eq, ByteArray.toList_eq]
set_option maxHeartbeats 1000000 in
theorem reqK_bad (i : Int) (p v own : ByteArray) (b1 : Nat) (x : Value) (pr : Option Bm) (A : Nat → Addr) (m : Int) (W : World) (hp : p.size < 999999) (hv : v.size < 999999) (S : Te W A m) (h : mErr (p, v) ≠ 0) :
    Calls Tryz.prog 31 #[.int .i64 i, .agg #[.string p, .string v], .pointer (some ⟨b1, 0, none⟩), x] W fun e w' => e = .returned (errA A (reqW own pr (p, v))) ∧ Below W.heap.size W w' := by
  rw [reqW_bad h, errA_if A h]
  have HB0 := hid ((Below.refl W.heap.size W).alloc (Nat.le_refl _) (.cells #[.string p, .string v] 26))
  have HC := hid (mcheck_any p v A m _ (by omega) (by omega) (S.below HB0.out))
  rw [show modErr p.data.toList v.data.toList = mErr (p, v) from rfl, errA_if A h] at HC
  clear S h
  go_enter Tryz.func31, Tryz.ntmps31
  go_wp2_with fail
  refine HC.out.mono ?_
  rintro e w1 ⟨rfl, hb⟩
  have HB := hid (HB0.out.trans (hb.mono HB0.out.size))
  clear hb
  go_wp2_with fail
  go_ret
  exact ⟨rfl, HB.out⟩
set_option maxHeartbeats 1000000 in
theorem reqK_own (i : Int) (p v own : ByteArray) (b1 : Nat) (x : Value) (pr : Option Bm) (A : Nat → Addr) (m : Int) (W : World) (hp : p.size < 999999) (hv : v.size < 999999) (S : Te W A m) (h1 : W.cell? ⟨b1, 0, none⟩ = some (.string own)) (h : mErr (p, v) = 0) (ho : p = own) :
    Calls Tryz.prog 31 #[.int .i64 i, .agg #[.string p, .string v], .pointer (some ⟨b1, 0, none⟩), x] W fun e w' => e = .returned (errA A (reqW own pr (p, v))) ∧ Below W.heap.size W w' := by
  rw [reqW_own h ho, errA_if A (by omega)]
  have HB0 := hid ((Below.refl W.heap.size W).alloc (Nat.le_refl _) (.cells #[.string p, .string v] 26))
  have HS := hid (S.below HB0.out)
  have HC := hid (mcheck_any p v A m _ (by omega) (by omega) HS.out)
  rw [show modErr p.data.toList v.data.toList = mErr (p, v) from rfl, h, errA0] at HC
  have H1 := hid h1
  clear S h h1
  subst ho
  have he := str_refl p
  go_enter Tryz.func31, Tryz.ntmps31
  go_wp2_with fail
  refine HC.out.mono ?_
  rintro e w1 ⟨rfl, hb⟩
  obtain ⟨⟨r0, r1⟩, rz⟩ := res2 (hb.mono (by simp))
  have HB := hid (HB0.out.trans (hb.mono HB0.out.size))
  have c1 := cell_below HB.out H1.out
  have g := (HS.out.below hb).sen.g2
  clear hb
  go_wp2_with fail
  go_ret
  exact ⟨rfl, HB.out⟩
set_option maxHeartbeats 1000000 in
theorem reqK_0 (p v own : ByteArray) (b1 : Nat) (x : Value) (A : Nat → Addr) (m : Int) (W : World) (hp : p.size < 999999) (hv : v.size < 999999) (S : Te W A m) (h1 : W.cell? ⟨b1, 0, none⟩ = some (.string own)) (h : mErr (p, v) = 0) (ho : ¬ p = own) :
    Calls Tryz.prog 31 #[.int .i64 0, .agg #[.string p, .string v], .pointer (some ⟨b1, 0, none⟩), x] W fun e w' => e = .returned (errA A (reqW own none (p, v))) ∧ Below W.heap.size W w' := by
  rw [reqW_none h ho, errA0]
  have HB0 := hid ((Below.refl W.heap.size W).alloc (Nat.le_refl _) (.cells #[.string p, .string v] 26))
  have HS := hid (S.below HB0.out)
  have HC := hid (mcheck_any p v A m _ (by omega) (by omega) HS.out)
  rw [show modErr p.data.toList v.data.toList = mErr (p, v) from rfl, h, errA0] at HC
  have H1 := hid h1
  clear S h h1
  have he := str_ne ho
  clear ho
  go_enter Tryz.func31, Tryz.ntmps31
  go_wp2_with fail
  refine HC.out.mono ?_
  rintro e w1 ⟨rfl, hb⟩
  obtain ⟨⟨r0, r1⟩, rz⟩ := res2 (hb.mono (by simp))
  have HB := hid (HB0.out.trans (hb.mono HB0.out.size))
  have c1 := cell_below HB.out H1.out
  clear hb
  go_wp2_with fail
  go_quiet (fail)
  go_wp2_with fail
  go_ret
  exact ⟨rfl, below_drawn_of HB.out _⟩
set_option maxHeartbeats 1000000 in
theorem reqK_1 (k : Nat) (p v q u own : ByteArray) (b1 b2 b o n c : Nat) (A : Nat → Addr) (m : Int) (W : World) (hp : p.size < 999999) (hv : v.size < 999999) (S : Te W A m) (h1 : W.cell? ⟨b1, 0, none⟩ = some (.string own)) (h : mErr (p, v) = 0) (ho : ¬ p = own)
    (h2 : W.cell? ⟨b2, 0, none⟩ = some (.slice (some ⟨b, o, none⟩) n c)) (hk : k < n) (hn : n ≤ 1000000) (h3 : W.cell? ⟨b, o + k * 2, none⟩ = some (.string q)) :
    Calls Tryz.prog 31 #[.int .i64 ((k : Int) + 1), .agg #[.string p, .string v], .pointer (some ⟨b1, 0, none⟩), .pointer (some ⟨b2, 0, none⟩)] W fun e w' => e = .returned (errA A (reqW own (some (q, u)) (p, v))) ∧ Below W.heap.size W w' := by
  rw [reqW_some h ho]
  have hge : ∀ X : World, (binOp BinOp.geq 9 (.string q) (.string p)).run Tryz.prog X = .ok (.bool (noLess q p)) X := fun X => by rw [← noLess_is]; rfl
  have HB0 := hid ((Below.refl W.heap.size W).alloc (Nat.le_refl _) (.cells #[.string p, .string v] 26))
  have HS := hid (S.below HB0.out)
  have HC := hid (mcheck_any p v A m _ (by omega) (by omega) HS.out)
  rw [show modErr p.data.toList v.data.toList = mErr (p, v) from rfl, h, errA0] at HC
  have H1 := hid h1
  have H2 := hid h2
  have H3 := hid h3
  clear S h h1 h2 h3
  have he := str_ne ho
  clear ho
  have g1 : (0 : Int) ≤ (k : Int) := by omega
  have g2 : (k : Int) < (n : Int) := by omega
  have g3 : (k : Int) + 1 - 1 = (k : Int) := by omega
  have g4 : (0 : Int) < (k : Int) + 1 := by omega
  have gw : IntKind.i64.wrap (k : Int) = (k : Int) := by rw [IntKind.wrap_i64]; omega
  cases hz : noLess q p
  · rw [hz] at hge
    rw [if_neg (by simp), errA0]
    go_enter Tryz.func31, Tryz.ntmps31
    go_wp2_with fail
    refine HC.out.mono ?_
    rintro e w1 ⟨rfl, hb⟩
    obtain ⟨⟨r0, r1⟩, rz⟩ := res2 (hb.mono (by simp))
    have HB := hid (HB0.out.trans (hb.mono HB0.out.size))
    have c1 := cell_below HB.out H1.out
    have c2 := cell_below HB.out H2.out
    have c3 := cell_below HB.out H3.out
    clear hb
    go_wp2_with fail
    go_quiet (fail)
    go_wp2_with fail
    go_ret
    exact ⟨rfl, below_drawn_of HB.out _⟩
  · rw [hz] at hge
    rw [if_pos rfl, errA_if A (by omega)]
    go_enter Tryz.func31, Tryz.ntmps31
    go_wp2_with fail
    refine HC.out.mono ?_
    rintro e w1 ⟨rfl, hb⟩
    obtain ⟨⟨r0, r1⟩, rz⟩ := res2 (hb.mono (by simp))
    have HB := hid (HB0.out.trans (hb.mono HB0.out.size))
    have c1 := cell_below HB.out H1.out
    have c2 := cell_below HB.out H2.out
    have c3 := cell_below HB.out H3.out
    have gg := (HS.out.below hb).sen.g7
    clear hb
    go_wp2_with fail
    go_quiet (fail)
    go_wp2_with fail
    go_ret
    exact ⟨rfl, below_drawn_of HB.out _⟩
end Ve
end Go.Proofs.YtiebgeamfblbdaaGreatDoor
namespace Go.Proofs.YtiebgeamfblbdaaGreatDoor
open Go.RowKit
namespace Ve
set_option maxHeartbeats 1000000 in
theorem bare_sen (a : Addr) (A : Nat → Addr) (m : Int) (w : World) (S : Te w A m) :
    Calls Tryz.prog 42 #[.iface 169 (.pointer (some a))] w fun e w' => e = .returned (.iface 169 (.pointer (some a))) ∧ Below w.heap.size w w' := by
  have HB0 := hid ((Below.refl w.heap.size w).alloc (Nat.le_refl _) (.cells #[.pointer none] 81))
  have HA := hid (Er.as_miss_b a ⟨w.heap.size, 0, none⟩ _ (S.below HB0.out).sen.et)
  clear S
  go_enter Tryz.func42, Tryz.ntmps42
  go_wp2_with fail
  refine HA.out.mono ?_
  rintro e w1 ⟨rfl, hb⟩
  have HB := hid (HB0.out.trans (hb.mono HB0.out.size))
  clear hb
  go_wp2_with fail
  go_ret
  exact ⟨rfl, HB.out⟩
set_option maxHeartbeats 1000000 in
theorem bare_fault (b : Nat) (x : Addr) (A : Nat → Addr) (m : Int) (w : World) (S : Te w A m) (h1 : w.cell? ⟨b, 1, none⟩ = some (.iface 169 (.pointer (some x)))) :
    Calls Tryz.prog 42 #[.iface 81 (.pointer (some ⟨b, 0, none⟩))] w fun e w' => e = .returned (.iface 169 (.pointer (some x))) ∧ Below w.heap.size w w' := by
  have HB0 := hid ((Below.refl w.heap.size w).alloc (Nat.le_refl _) (.cells #[.pointer none] 81))
  have HA := hid (Er.as_hit_b ⟨b, 0, none⟩ ⟨w.heap.size, 0, none⟩ (.pointer none) _ w.heap.size (Nat.le_refl _) (S.below HB0.out).sen.et (by simp) (by simp) (by simp))
  have H1 := hid h1
  clear S h1
  go_enter Tryz.func42, Tryz.ntmps42
  go_wp2_with fail
  refine HA.out.mono ?_
  rintro e w1 ⟨rfl, hb, ht⟩
  have HB := hid (HB0.out.trans hb)
  have c1 := cell_below HB.out H1.out
  clear hb
  go_wp2_with fail
  go_ret
  exact ⟨rfl, HB.out⟩
theorem bare_any (x : Value) (c : Nat) (o : Option Nat) (A : Nat → Addr) (m : Int) (w : World) (S : Te w A m) (h : ErrAt w A x c o) (hc : c ≠ 0) :
    Calls Tryz.prog 42 #[x] w fun e w' => e = .returned (errA A c) ∧ Below w.heap.size w w' := by
  cases o with
  | none =>
    have h : x = errA A c := h
    rw [h, errA_if A hc]
    exact bare_sen _ A m w S
  | some i =>
    obtain ⟨_, b, rfl, _, h3⟩ := h
    rw [errA_if A hc] at h3 ⊢
    exact bare_fault b _ A m w S h3
end Ve
end Go.Proofs.YtiebgeamfblbdaaGreatDoor
namespace Go.Proofs.YtiebgeamfblbdaaGreatDoor
open Go.RowKit
namespace Ve
set_option maxHeartbeats 1000000 in
theorem ownM_some (b o c : Nat) (L : List Bm) (w : World) (hn : L.length ≤ 1000000) (hL : L ≠ []) (hc : ∀ j u, (flatM L)[j]? = some u → w.cell? ⟨b, o + j, none⟩ = some u) :
    Calls Tryz.prog 14 #[.slice (some ⟨b, o, none⟩) L.length c] w fun e w' => ∃ v, e = .returned v ∧ w'.ownsRow w.heap.size 26 2 v L.length (flatM L) ∧ Below w.heap.size w w' := by
  obtain ⟨i0, hi, hz0, hz1, hz2⟩ := info_parts infoMod
  have HC := hid hc
  have hpos : 0 < L.length := List.length_pos_iff.2 hL
  clear hc hL
  go_enter Tryz.func14, Tryz.ntmps14
  go_wp2_with (at_builtin; refine wpList_append_own _ rfl _ _ 22 rfl w.heap.size 26 i0 _ 2 32 Tryz.underlying22 hi hz0 hz1 hz2 rfl (by decide) _ _ _ rfl (World.ownsRow_nil _ _ _ _) ⟨b, o, none⟩ L.length c (flatM L) rfl ?qc1 ?qc2 ?qc3 ?qc4 ?qc5 ?qc6 ?_)
  case qc1 => exact flatM_len L
  case qc2 =>
    intro j u hj
    rw [Addr.add_lit]
    exact HC.out j u hj
  case qc3 => exact flat_one L
  case qc4 => rw [Nat.zero_add]; unfold maxLen; omega
  case qc5 => rw [Nat.zero_add]; omega
  case qc6 => exact Nat.le_refl _
  intro v' w1 hown hgrow hnil
  obtain ⟨va, vn, vc, rfl⟩ := own_sl hown
  have HO := hid hown
  have HG := hid hgrow
  clear hown hgrow hnil
  go_wp2_with fail
  go_ret
  refine ⟨_, rfl, by simpa using HO.out, ?_⟩
  exact (Below.refl _ w).grown HG.out (Nat.le_refl _) (by intro k hk; simp [Value.ownBlock] at hk)
set_option maxHeartbeats 1000000 in
theorem ownM_nil (w : World) : Calls Tryz.prog 14 #[.slice none 0 0] w fun e w' => e = .returned (.slice none 0 0) ∧ w' = w := by
  obtain ⟨i0, hi, hz0, hz1, hz2⟩ := info_parts infoMod
  go_enter Tryz.func14, Tryz.ntmps14
  go_wp2_with (at_builtin; refine wpList_append_own_none rfl _ _ 22 rfl w.heap.size 26 i0 2 Tryz.underlying22 hi _ _ _ rfl (World.ownsRow_nil _ _ _ _) rfl ?_)
  go_ret
  exact ⟨rfl, rfl⟩
set_option maxHeartbeats 1000000 in
theorem ownM_none (a : Addr) (c : Nat) (w : World) : Calls Tryz.prog 14 #[.slice (some a) 0 c] w fun e w' => e = .returned (.slice none 0 0) ∧ w' = w := by
  have hrun : ∀ ty, (Builtin.append_ #[22, 22] ty #[.slice none 0 0, .slice (some a) 0 c]).run Tryz.prog w = .ok (.slice none 0 0) w := fun ty => by
    obtain ⟨i0, hi, hz0, hz1, hz2⟩ := info_parts infoMod
    have hl : (loadCells a 0).run Tryz.prog w = .ok #[] w := by simpa using run_loadCells_list (P := Tryz.prog) w a [] (by simp)
    simp [Builtin.append_, run_underlying Tryz.underlying22, Builtin.lenOf, Builtin.firstCells, Go.sizeOf, typeInfo, hi, hl]
  go_enter Tryz.func14, Tryz.ntmps14
  go_wp2_with (at_builtin; refine Lib.wpList_append_run _ rfl _ _ _ _ rfl _ _ rfl rfl _ _ (hrun _) ?_)
  go_ret
  exact ⟨rfl, rfl⟩
def Em (v : Value) (L : List Bm) : Prop := ∀ a c, v = .slice a L.length c → L = [] → (Value.slice a 0 c = .slice none 0 0 ∨ ∃ a', Value.slice a 0 c = .slice (some a') 0 c)
theorem ownM_any (v : Value) (L : List Bm) (w : World) (hn : L.length ≤ 1000000) (hv : MsAt w v L) (hem : Em v L) :
    Calls Tryz.prog 14 #[v] w fun e w' => ∃ u, e = .returned u ∧ w'.ownsRow w.heap.size 26 2 u L.length (flatM L) ∧ (L = [] → u = .slice none 0 0) ∧ Below w.heap.size w w' := by
  obtain ⟨a, c, rfl, _, h⟩ := hv
  have hz : L = [] → _ := hem a c rfl
  cases L with
  | nil =>
    rcases hz rfl with hz | ⟨a', hz⟩
    · show Calls Tryz.prog 14 #[.slice a 0 c] w _
      rw [hz]
      exact (ownM_nil w).mono fun e w' ⟨h1, h2⟩ => ⟨_, h1, World.ownsRow_nil _ _ _ _, fun _ => rfl, by rw [h2]; exact Below.refl _ _⟩
    · show Calls Tryz.prog 14 #[.slice a 0 c] w _
      rw [hz]
      exact (ownM_none a' c w).mono fun e w' ⟨h1, h2⟩ => ⟨_, h1, World.ownsRow_nil _ _ _ _, fun _ => rfl, by rw [h2]; exact Below.refl _ _⟩
  | cons x r =>
    obtain ⟨b, o, rfl, h2⟩ := h (by simp)
    exact (ownM_some b o c (x :: r) w hn (by simp) (ms_flat h2)).mono fun e w' ⟨u, h1, h2, h3⟩ => ⟨u, h1, h2, (fun h => by cases h), h3⟩
end Ve
end Go.Proofs.YtiebgeamfblbdaaGreatDoor
