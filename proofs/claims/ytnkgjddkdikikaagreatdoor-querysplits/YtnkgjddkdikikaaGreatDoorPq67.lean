/-
  QfA
-/
import Derived.Test.YtnkgjddkdikikaaGreatDoorPq2
import Derived.Test.YtnkgjddkdikikaaGreatDoorPq3
import Derived.Test.YtnkgjddkdikikaaGreatDoorPq4
import Derived.Test.YtnkgjddkdikikaaGreatDoorPq7
import Derived.Test.YtnkgjddkdikikaaGreatDoorPq12
import Derived.Test.YtnkgjddkdikikaaGreatDoorPq10
import Derived.Test.YtnkgjddkdikikaaGreatDoorPq11
import Derived.Test.YtnkgjddkdikikaaGreatDoorPq13
import Derived.Test.YtnkgjddkdikikaaGreatDoorPq22
import Derived.Test.YtnkgjddkdikikaaGreatDoorPq23
import Derived.Test.YtnkgjddkdikikaaGreatDoorPq27
import Derived.Test.YtnkgjddkdikikaaGreatDoorPq29
import Derived.Test.YtnkgjddkdikikaaGreatDoorPq31
import Derived.Test.YtnkgjddkdikikaaGreatDoorPq5
import Derived.Test.YtnkgjddkdikikaaGreatDoorPq32
import Derived.Test.YtnkgjddkdikikaaGreatDoorPq8
import Derived.Test.YtnkgjddkdikikaaGreatDoorPq61
import Derived.Test.YtnkgjddkdikikaaGreatDoorPq62
import Derived.Test.YtnkgjddkdikikaaGreatDoorPq24
import Derived.Test.YtnkgjddkdikikaaGreatDoorPq66
namespace Go.Proofs.YtnkgjddkdikikaaGreatDoor
open Go.RowKit
namespace Ve
def FitC (w : World) (f : Value) (P : ByteArray → Bool) : Prop := ∃ K cb, f = .func (.func K) #[] cb ∧ (∀ args w, (callFunc K args).run Tryz.prog w = .ok (.enter K args) w) ∧
  ∀ W v, Below w.heap.size w W → v.size ≤ 100 → verErr v.data.toList = 0 → Calls Tryz.prog K (#[.string v] ++ cb) W fun e W' => e = .returned (.bool (P v)) ∧ Below W.heap.size W W'
theorem fitK1_any (v x : ByteArray) (b : Nat) (A : Nat → Addr) (m : Int) (W : World) (hv : v.size ≤ 100) (hx : x.size ≤ 100) (S : Te W A m) (h0 : W.cell? ⟨b, 0, none⟩ = some (.string x)) :
    Calls Tryz.prog 143 (#[.string v] ++ #[.pointer (some ⟨b, 0, none⟩)]) W fun e W' => e = .returned (.bool (lessB v.data.toList x.data.toList)) ∧ Below W.heap.size W W' := by
  show Calls Tryz.prog 143 #[.string v, .pointer (some ⟨b, 0, none⟩)] W _
  have HL := hid (less_any v x (A 0) (A 1) m W (by omega) (by omega) S.vs)
  generalize lessB v.data.toList x.data.toList = z at *
  clear S
  go_enter Tryz.func143, Tryz.ntmps143
  go_wp2_with fail
  refine HL.out.mono ?_
  rintro e w1 ⟨rfl, hb⟩
  have HB := hid hb
  clear hb
  go_wp2_with fail
  go_ret
  exact ⟨rfl, HB.out⟩
theorem fitK2_any (v x : ByteArray) (b : Nat) (A : Nat → Addr) (m : Int) (W : World) (hv : v.size ≤ 100) (hx : x.size ≤ 100) (S : Te W A m) (h0 : W.cell? ⟨b, 0, none⟩ = some (.string x)) :
    Calls Tryz.prog 144 (#[.string v] ++ #[.pointer (some ⟨b, 0, none⟩)]) W fun e W' => e = .returned (.bool (!lessB x.data.toList v.data.toList)) ∧ Below W.heap.size W W' := by
  show Calls Tryz.prog 144 #[.string v, .pointer (some ⟨b, 0, none⟩)] W _
  have HL := hid (less_any x v (A 0) (A 1) m W (by omega) (by omega) S.vs)
  generalize lessB x.data.toList v.data.toList = z at *
  clear S
  go_enter Tryz.func144, Tryz.ntmps144
  go_wp2_with fail
  refine HL.out.mono ?_
  rintro e w1 ⟨rfl, hb⟩
  have HB := hid hb
  clear hb
  go_wp2_with fail
  go_ret
  exact ⟨rfl, HB.out⟩
theorem fitK3_any (v x : ByteArray) (b : Nat) (A : Nat → Addr) (m : Int) (W : World) (hv : v.size ≤ 100) (hx : x.size ≤ 100) (S : Te W A m) (h0 : W.cell? ⟨b, 0, none⟩ = some (.string x)) :
    Calls Tryz.prog 145 (#[.string v] ++ #[.pointer (some ⟨b, 0, none⟩)]) W fun e W' => e = .returned (.bool (lessB x.data.toList v.data.toList)) ∧ Below W.heap.size W W' := by
  show Calls Tryz.prog 145 #[.string v, .pointer (some ⟨b, 0, none⟩)] W _
  have HL := hid (less_any x v (A 0) (A 1) m W (by omega) (by omega) S.vs)
  generalize lessB x.data.toList v.data.toList = z at *
  clear S
  go_enter Tryz.func145, Tryz.ntmps145
  go_wp2_with fail
  refine HL.out.mono ?_
  rintro e w1 ⟨rfl, hb⟩
  have HB := hid hb
  clear hb
  go_wp2_with fail
  go_ret
  exact ⟨rfl, HB.out⟩
theorem fitK4_any (v x : ByteArray) (b : Nat) (A : Nat → Addr) (m : Int) (W : World) (hv : v.size ≤ 100) (hx : x.size ≤ 100) (S : Te W A m) (h0 : W.cell? ⟨b, 0, none⟩ = some (.string x)) :
    Calls Tryz.prog 146 (#[.string v] ++ #[.pointer (some ⟨b, 0, none⟩)]) W fun e W' => e = .returned (.bool (!lessB v.data.toList x.data.toList)) ∧ Below W.heap.size W W' := by
  show Calls Tryz.prog 146 #[.string v, .pointer (some ⟨b, 0, none⟩)] W _
  have HL := hid (less_any v x (A 0) (A 1) m W (by omega) (by omega) S.vs)
  generalize lessB v.data.toList x.data.toList = z at *
  clear S
  go_enter Tryz.func146, Tryz.ntmps146
  go_wp2_with fail
  refine HL.out.mono ?_
  rintro e w1 ⟨rfl, hb⟩
  have HB := hid hb
  clear hb
  go_wp2_with fail
  go_ret
  exact ⟨rfl, HB.out⟩
theorem fitK5_any (v x : ByteArray) (b : Nat) (A : Nat → Addr) (m : Int) (W : World) (hv : v.size ≤ 100) (hx : x.size ≤ 100) (S : Te W A m) (h0 : W.cell? ⟨b, 0, none⟩ = some (.string x)) :
    Calls Tryz.prog 149 (#[.string v] ++ #[.pointer (some ⟨b, 0, none⟩)]) W fun e W' => e = .returned (.bool (beginB v x)) ∧ Below W.heap.size W W' := by
  show Calls Tryz.prog 149 #[.string v, .pointer (some ⟨b, 0, none⟩)] W _
  have HL := hid (begins_any v x (A 0) (A 1) m W (by omega) (by omega) S.vs)
  generalize beginB v x = z at *
  clear S
  go_enter Tryz.func149, Tryz.ntmps149
  go_wp2_with fail
  refine HL.out.mono ?_
  rintro e w1 ⟨rfl, hb⟩
  have HB := hid hb
  clear hb
  go_wp2_with fail
  go_ret
  exact ⟨rfl, HB.out⟩
theorem anyK_any (v : ByteArray) (W : World) : Calls Tryz.prog 147 (#[.string v] ++ #[]) W fun e W' => e = .returned (.bool true) ∧ Below W.heap.size W W' := by
  show Calls Tryz.prog 147 #[.string v] W _
  go_enter Tryz.func147, Tryz.ntmps147
  go_wp2_with fail
  go_ret
  exact ⟨rfl, Below.refl _ _⟩
theorem patK_any (v h x : ByteArray) (b c : Nat) (A : Nat → Addr) (m : Int) (W : World) (hv : v.size ≤ 100) (hh : h.size ≤ 100) (hx : x.size ≤ 100) (S : Te W A m) (h0 : W.cell? ⟨b, 0, none⟩ = some (.string h)) (h1 : W.cell? ⟨c, 0, none⟩ = some (.string x)) :
    Calls Tryz.prog 203 (#[.string v] ++ #[.pointer (some ⟨b, 0, none⟩), .pointer (some ⟨c, 0, none⟩)]) W fun e W' => e = .returned (.bool (beginB v h && !lessB v.data.toList x.data.toList)) ∧ Below W.heap.size W W' := by
  show Calls Tryz.prog 203 #[.string v, .pointer (some ⟨b, 0, none⟩), .pointer (some ⟨c, 0, none⟩)] W _
  have HL := hid (begins_any v h (A 0) (A 1) m W (by omega) (by omega) S.vs)
  have HM := hid (fun W' (hb : Below W.heap.size W W') => less_any v x (A 0) (A 1) m W' (by omega) (by omega) (S.below hb).vs)
  generalize lessB v.data.toList x.data.toList = y at *
  clear S
  cases hz : beginB v h
  · rw [hz] at HL
    clear hz
    go_enter Tryz.func203, Tryz.ntmps203
    go_wp2_with fail
    refine HL.out.mono ?_
    rintro e w1 ⟨rfl, hb⟩
    have HB := hid hb
    clear hb
    go_wp2_with fail
    go_ret
    exact ⟨rfl, HB.out⟩
  · rw [hz] at HL
    clear hz
    go_enter Tryz.func203, Tryz.ntmps203
    go_wp2_with fail
    refine HL.out.mono ?_
    rintro e w1 ⟨rfl, hb⟩
    have HB := hid hb
    have x1 := cell_below hb h1
    clear hb
    go_wp2_with fail
    refine (HM.out _ HB.out).mono ?_
    rintro e w2 ⟨rfl, hb⟩
    have HB2 := hid (HB.out.trans (hb.mono HB.out.size))
    clear hb
    go_wp2_with fail
    go_ret
    exact ⟨rfl, HB2.out⟩
theorem enK1 : ∀ args w, (callFunc 143 args).run Tryz.prog w = .ok (.enter 143 args) w := enters_of Tryz.func143 (by kernel_rfl) rfl
theorem enK2 : ∀ args w, (callFunc 144 args).run Tryz.prog w = .ok (.enter 144 args) w := enters_of Tryz.func144 (by kernel_rfl) rfl
theorem enK3 : ∀ args w, (callFunc 145 args).run Tryz.prog w = .ok (.enter 145 args) w := enters_of Tryz.func145 (by kernel_rfl) rfl
theorem enK4 : ∀ args w, (callFunc 146 args).run Tryz.prog w = .ok (.enter 146 args) w := enters_of Tryz.func146 (by kernel_rfl) rfl
theorem enK5 : ∀ args w, (callFunc 149 args).run Tryz.prog w = .ok (.enter 149 args) w := enters_of Tryz.func149 (by kernel_rfl) rfl
theorem enKA : ∀ args w, (callFunc 147 args).run Tryz.prog w = .ok (.enter 147 args) w := enters_of Tryz.func147 (by kernel_rfl) rfl
theorem enKP : ∀ args w, (callFunc 203 args).run Tryz.prog w = .ok (.enter 203 args) w := enters_of Tryz.func203 (by kernel_rfl) rfl
theorem fit_all (w : World) (P : ByteArray → Bool) (h : ∀ v, P v = true) : FitC w (.func (.func 147) #[] #[]) P := ⟨147, #[], rfl, enKA, fun W v _ _ _ => by rw [h v]; exact anyK_any v W⟩
theorem okQ_sign {q now v : ByteArray} (h : ¬ (sgn q).1 = bE) : okQ q now v = suitB q v := okQ_suit (by
  cases hw : isWd q
  · rfl
  · exact absurd (by rw [sgn_word hw]) h)
theorem patch_tail {now v hd : ByteArray} (hn : verErr now.data.toList = 0) (hv : verErr v.data.toList = 0) (hh : hd.data.toList = 118 :: (Lib.itoa (nAt now.data.toList 0) ++ 46 :: Lib.itoa (nAt now.data.toList 1))) :
    (beginB v hd && !lessB v.data.toList now.data.toList) = okQ bPatch now v := by
  rw [okQ_patch hn, (begin_patch hn hv hh).1]
theorem now_nums {l : List UInt8} (h : verErr l = 0) : (0 ≤ nAt l 0 ∧ nAt l 0 ≤ 999999) ∧ (0 ≤ nAt l 1 ∧ nAt l 1 ≤ 999999) := by
  have := (begin_patch (now := ⟨l.toArray⟩) (v := ⟨l.toArray⟩) (hd := ⟨(118 :: (Lib.itoa (nAt l 0) ++ 46 :: Lib.itoa (nAt l 1))).toArray⟩) (by simpa using h) (by simpa using h) (by simp)).2
  simpa using this
structure Pt (w0 W : World) (N : Nat) (a b : Value) : Prop where
  c0 : W.cell? ⟨N, 0, none⟩ = some a
  c1 : W.cell? ⟨N, 1, none⟩ = some b
  n0 : w0.heap.size ≤ N
  tab0 : Lib.TabIs Tryz.prog w0 powName .u64 Lib.pow10Tab
  bl : Below w0.heap.size w0 W
theorem Pt.lt {w0 W : World} {N : Nat} {a b : Value} (h : Pt w0 W N a b) : N < W.heap.size := by have := lt_of_cell h.c0; simpa using this
theorem Pt.tab {w0 W : World} {N : Nat} {a b : Value} (h : Hid (Pt w0 W N a b)) : Lib.TabIs Tryz.prog W powName .u64 Lib.pow10Tab := tab_below h.out.tab0 h.out.bl
theorem Pt.call {w0 W W' : World} {N : Nat} {a b : Value} (h : Hid (Pt w0 W N a b)) (hb : Below W.heap.size W W') : Pt w0 W' N a b :=
  ⟨cell_below hb h.out.c0, cell_below hb h.out.c1, h.out.n0, h.out.tab0, h.out.bl.trans (hb.mono h.out.bl.size)⟩
theorem Pt.held {w0 W : World} {N : Nat} {a b : Value} (h : Pt w0 W N a b) : W.cell? ⟨N, 0, none⟩ = some a ∧ W.cell? ⟨N, 1, none⟩ = some b ∧ Hid (Pt w0 W N a b) := ⟨h.c0, h.c1, hid h⟩
theorem Pt.drew {w0 W : World} {N : Nat} {a b : Value} (h : Pt w0 W N a b) : Pt w0 W.drew N a b := Pt.call (hid h) (below_drawn W 1)
theorem Pt.keepA {w0 W : World} {N : Nat} {a b : Value} {o : Obj} (h : W.cell? ⟨N, 0, none⟩ = some a ∧ W.cell? ⟨N, 1, none⟩ = some b ∧ Hid (Pt w0 W N a b)) : (W.alloc o).cell? ⟨N, 0, none⟩ = some a ∧ (W.alloc o).cell? ⟨N, 1, none⟩ = some b ∧ Hid (Pt w0 (W.alloc o) N a b) :=
  (Pt.call h.2.2 ((Below.refl _ _).alloc (Nat.le_refl _) o)).held
theorem Pt.keepS {w0 W : World} {N k o : Nat} {a b v : Value} (h : W.cell? ⟨N, 0, none⟩ = some a ∧ W.cell? ⟨N, 1, none⟩ = some b ∧ Hid (Pt w0 W N a b)) (hk : N < k) : (W.setCell ⟨k, o, none⟩ v).cell? ⟨N, 0, none⟩ = some a ∧ (W.setCell ⟨k, o, none⟩ v).cell? ⟨N, 1, none⟩ = some b ∧ Hid (Pt w0 (W.setCell ⟨k, o, none⟩ v) N a b) :=
  Pt.held ⟨by rw [World.cell?_setCell_far _ _ _ _ (by show k ≠ N; omega)]; exact h.2.2.out.c0, by rw [World.cell?_setCell_far _ _ _ _ (by show k ≠ N; omega)]; exact h.2.2.out.c1, h.2.2.out.n0, h.2.2.out.tab0, h.2.2.out.bl.setCell (by show w0.heap.size ≤ k; have := h.2.2.out.n0; omega) v⟩
theorem Pt.tabH {w0 W : World} {N : Nat} {a b : Value} (h : W.cell? ⟨N, 0, none⟩ = some a ∧ W.cell? ⟨N, 1, none⟩ = some b ∧ Hid (Pt w0 W N a b)) : Lib.TabIs Tryz.prog W powName .u64 Lib.pow10Tab := Pt.tab h.2.2
theorem Pt.callH {w0 W W' : World} {N : Nat} {a b : Value} (h : W.cell? ⟨N, 0, none⟩ = some a ∧ W.cell? ⟨N, 1, none⟩ = some b ∧ Hid (Pt w0 W N a b)) (hb : Below W.heap.size W W') : Pt w0 W' N a b := Pt.call h.2.2 hb
theorem new_cell (W : World) (v : Value) (T : TypeId) : (W.alloc (.cells #[v] T)).cell? ⟨W.heap.size, 0, none⟩ = some v := by simp
theorem new_kept {W W' : World} {v : Value} {T : TypeId} (hb : Below (W.alloc (.cells #[v] T)).heap.size (W.alloc (.cells #[v] T)) W') : W'.cell? ⟨W.heap.size, 0, none⟩ = some v ∧ W'.frozen? ⟨W.heap.size, 0, none⟩ = false :=
  ⟨cell_below hb (new_cell W v T), by rw [hb.frozen (by simp)]; simp⟩
theorem old_kept {W W' : World} {k : Nat} {v : Value} (h : W.cell? ⟨k, 0, none⟩ = some v ∧ W.frozen? ⟨k, 0, none⟩ = false) (hb : Below W.heap.size W W') : W'.cell? ⟨k, 0, none⟩ = some v ∧ W'.frozen? ⟨k, 0, none⟩ = false :=
  ⟨cell_below hb h.1, by rw [hb.frozen (by have := lt_of_cell h.1; simpa using this)]; exact h.2⟩
theorem Pt.start {w : World} {a b c v : Value} {T : TypeId} (h : Lib.TabIs Tryz.prog w powName .u64 Lib.pow10Tab) : Pt w (w.alloc (.cells #[a, b, c, v] T)) w.heap.size a b :=
  ⟨by simp, by simp, Nat.le_refl _, h, (Below.refl _ _).alloc (Nat.le_refl _) _⟩
def EndP (w We : World) (k : Nat) (H now : ByteArray) : Prop := We.cell? ⟨k, 0, none⟩ = some (.string H) ∧ We.cell? ⟨w.heap.size, 0, none⟩ = some (.string now) ∧ Below w.heap.size w We
theorem end_a {w W : World} {H now : ByteArray} (T : TypeId) (hb : Below w.heap.size w W) (hn : W.cell? ⟨w.heap.size, 0, none⟩ = some (.string now)) : EndP w (W.alloc (.cells #[.string H] T)) W.heap.size H now :=
  ⟨new_cell _ _ _, cell_below ((Below.refl _ _).alloc (Nat.le_refl _) _) hn, hb.alloc hb.size _⟩
theorem end_s {w W : World} {H now : ByteArray} {k : Nat} {x : Value} (hb : Below w.heap.size w W) (hn : W.cell? ⟨w.heap.size, 0, none⟩ = some (.string now)) (hk : w.heap.size < k) (hz : W.cell? ⟨k, 0, none⟩ = some x) : EndP w (W.setCell ⟨k, 0, none⟩ (.string H)) k H now :=
  ⟨World.cell?_setCell_same' _ _ _ (by rw [hz]; rfl), by rw [World.cell?_setCell_far _ _ _ _ (by show k ≠ w.heap.size; omega)]; exact hn, hb.setCell (by show w.heap.size ≤ k; omega) _⟩
theorem fit_end {w We : World} {k : Nat} {H now : ByteArray} {A : Nat → Addr} {m : Int} {l : List UInt8} (E : EndP w We k H now) (S : ∀ W, Below w.heap.size w W → Te W A m) (hnow : now.size ≤ 100) (hH : H.size ≤ 100) (hl : H.data.toList = l)
    (HF : ∀ v hd : ByteArray, verErr v.data.toList = 0 → hd.data.toList = l → (beginB v hd && !lessB v.data.toList now.data.toList) = okQ bPatch now v) :
    FitC We (.func (.func 203) #[] #[.pointer (some ⟨k, 0, none⟩), .pointer (some ⟨w.heap.size, 0, none⟩)]) (okQ bPatch now) :=
  ⟨203, _, rfl, enKP, fun W v hW hv hve => by
    rw [← HF v H hve hl]
    exact patK_any v H now k w.heap.size A m W hv hH hnow (S W (E.2.2.trans (hW.mono E.2.2.size))) (cell_below hW E.1) (cell_below hW E.2.1)⟩
theorem head_text {a b : Int} {Sa Sb : ByteArray} (ha : Sa.data.toList = Lib.itoa a) (hb : Sb.data.toList = Lib.itoa b) : ((⟨#[118]⟩ : ByteArray) ++ Sa ++ ⟨#[46]⟩ ++ Sb).data.toList = 118 :: (Lib.itoa a ++ 46 :: Lib.itoa b) := by
  rw [← ha, ← hb]; simp
theorem head_size {Sa Sb : ByteArray} (ha : Sa.size ≤ 6) (hb : Sb.size ≤ 6) : ((⟨#[118]⟩ : ByteArray) ++ Sa ++ ⟨#[46]⟩ ++ Sb).size ≤ 100 := by
  have e1 : (⟨#[118]⟩ : ByteArray).size = 1 := rfl
  have e2 : (⟨#[46]⟩ : ByteArray).size = 1 := rfl
  simp only [ByteArray.size_append, e1, e2]
  omega
set_option maxRecDepth 100000 in
set_option maxHeartbeats 2000000 in
theorem fpat_any (now : ByteArray) (A : Nat → Addr) (m : Int) (w : World) (hnow : now.size ≤ 100) (S : Te w A m) (htab : Lib.TabIs Tryz.prog w powName .u64 Lib.pow10Tab) :
    Calls Tryz.prog 148 #[.string now] w fun e w' => ∃ f, e = .returned f ∧ FitC w' f (okQ bPatch now) ∧ Below w.heap.size w w' := by
  have HB0 := hid ((Below.refl w.heap.size w).alloc (Nat.le_refl _) (.cells #[.string now] 9))
  have HC := hid (vsplit_any now (A 0) (A 1) m _ (by omega) (S.below HB0.out).vs)
  have hc0 : (w.alloc (.cells #[.string now] 9)).cell? ⟨w.heap.size, 0, none⟩ = some (.string now) := by simp
  have HT0 := hid (tab_below htab HB0.out)
  have HS := hid (fun W (h : Below w.heap.size w W) => S.below h)
  clear S htab
  go_enter Tryz.func148, Tryz.ntmps148
  go_wp2_with fail
  refine HC.out.mono ?_
  rintro e w1 ⟨h1, hb⟩
  have hc1 := cell_below hb hc0
  have HB := hid (HB0.out.trans (hb.mono HB0.out.size))
  have HT1 := hid (tab_below HT0.out hb)
  clear hb hc0 HC HT0
  rcases h1 with ⟨h0, rfl⟩ | ⟨h0, v, X, rfl, hX, hst⟩
  · obtain ⟨a, ha⟩ := errV_ne (A 0) (A 1) h0
    have HF := hid (show ∀ v, okQ bPatch now v = true from fun v => okQ_any (by unfold isWd; simp) (fun h => h0 h.2))
    rw [ha]
    clear h0 ha
    go_wp2_with fail
    go_ret
    exact ⟨_, rfl, fit_all _ _ HF.out, HB.out.alloc HB.out.size _⟩
  · obtain ⟨p, n, c, rfl⟩ := hst.slice
    obtain ⟨⟨a0, a1⟩, b0, b1⟩ := now_nums h0
    have HF := hid (fun v hd hv hh => patch_tail (v := v) (hd := hd) h0 hv hh)
    generalize nAt now.data.toList 0 = a at *
    generalize nAt now.data.toList 1 = b at *
    generalize nAt now.data.toList 2 = n2 at *
    have HT := hid (Pt.start (a := .int .i64 a) (b := .int .i64 b) (c := .int .i64 n2) (v := .slice p n c) (T := 37) HT1.out)
    have c0 := HT.out.c0
    have c1 := HT.out.c1
    have hsz : (w1.alloc (.cells #[.int .i64 a, .int .i64 b, .int .i64 n2, .slice p n c] 37)).drew.heap.size = w1.heap.size + 1 := by simp
    have HSZ := hid hsz
    clear h0 hst hX hsz
    go_wp2_with fail
    go_region_held (fun W => W.cell? ⟨w1.heap.size, 0, none⟩ = some (.int .i64 a) ∧ W.cell? ⟨w1.heap.size, 1, none⟩ = some (.int .i64 b) ∧ Hid (Pt w1 W w1.heap.size (.int .i64 a) (.int .i64 b))) (first | exact HTb.out.held | exact HTa.out.held | exact HT.out.drew.held | exact Pt.keepA (by assumption) | exact Pt.keepA HTb.out.held | exact Pt.keepA HTa.out.held | exact Pt.keepA HT.out.drew.held | exact Pt.keepS (by assumption) (by first | omega | (simp; done) | (simp; omega)) | exact Pt.keepS HTb.out.held (by first | omega | (simp; done) | (simp; omega))) (first
      | (go_at_call_of 202 (Value.int IntKind.i64 a); refine (itoa_any a _ a0 a1 (Pt.tabH (w0 := w1) (N := w1.heap.size) (a := .int .i64 a) (b := .int .i64 b) (by assumption))).mono ?_; rintro e wa ⟨Sa, rfl, hS, hZa, hb⟩; have HSa := hid hS; have HTa := hid (Pt.callH (w0 := w1) (N := w1.heap.size) (a := .int .i64 a) (b := .int .i64 b) (by assumption) hb); have hza := HTa.out.lt; try (have zz := new_kept (W := (w1.alloc (.cells #[.int .i64 a, .int .i64 b, .int .i64 n2, .slice p n c] 37)).drew) (v := .string ⟨#[]⟩) (T := 9) hb; rw [HSZ.out] at zz; obtain ⟨zc, zf⟩ := zz); clear hS hb)
      | (go_at_call_of 202 (Value.int IntKind.i64 b); refine (itoa_any b _ b0 b1 (Pt.tabH (w0 := w1) (N := w1.heap.size) (a := .int .i64 a) (b := .int .i64 b) (by assumption))).mono ?_; rintro e wb ⟨Sb, rfl, hS, hZb, hb⟩; have HSb := hid hS; have HTb := hid (Pt.callH (w0 := w1) (N := w1.heap.size) (a := .int .i64 a) (b := .int .i64 b) (by assumption) hb); have hzb := HTb.out.lt; (first | (have zz := new_kept (W := wa) (v := .string ⟨#[]⟩) (T := 9) hb; obtain ⟨zc2, zf2⟩ := zz) | (have zz := old_kept ⟨zc, zf⟩ hb; obtain ⟨zc2, zf2⟩ := zz) | skip); clear hS hb))
    all_goals
      have HBW := hid (HB.out.trans (HTb.out.bl.mono HB.out.size))
      have HNW := hid (cell_below HTb.out.bl hc1)
      have HLW := hid (show w.heap.size < w1.heap.size by have := lt_of_cell hc1; simpa using this)
      go_wp2_with fail
      go_ret
      first
        | exact ⟨_, rfl, fit_end (end_a 9 HBW.out HNW.out) HS.out hnow (head_size hZa hZb) (head_text HSa.out HSb.out) HF.out, (end_a 9 HBW.out HNW.out).2.2⟩
        | exact ⟨_, rfl, fit_end (end_s HBW.out HNW.out (by have := HLW.out; omega) zc2) HS.out hnow (head_size hZa hZb) (head_text HSa.out HSb.out) HF.out, (end_s HBW.out HNW.out (by have := HLW.out; omega) zc2).2.2⟩
set_option maxRecDepth 100000 in
set_option maxHeartbeats 2000000 in
theorem fits_1 (q now : ByteArray) (A : Nat → Addr) (m : Int) (w : World) (hq : q.size ≤ 100) (S : Te w A m) (hs : (sgn q).1 = sLt) :
    Calls Tryz.prog 79 #[.string q, .string now] w fun e w' => ∃ f, e = .returned f ∧ FitC w' f (okQ q now) ∧ Below w.heap.size w w' := by
  have HB0 := hid ((Below.refl w.heap.size w).alloc (Nat.le_refl _) (.cells #[.string q] 9))
  have hc0 : (w.alloc (.cells #[.string q] 9)).cell? ⟨w.heap.size, 0, none⟩ = some (.string q) := by simp
  have HC := hid (cs_any q (w.alloc (.cells #[.string q] 9)))
  have HP := hid (show ∀ v, okQ q now v = (lessB v.data.toList (sgn q).2.data.toList) from fun v => (okQ_sign (by rw [hs]; exact sg_ne9)).trans (suit_lt hs))
  have HZ := hid (sgn_size q)
  have HS := hid (fun W (h : Below w.heap.size w W) => S.below h)
  have k0 : ((sgn q).1.toList == [60]) = true := by rw [hs, ByteArray.toList_eq]; rfl
  generalize (sgn q).1 = s1 at *
  generalize (sgn q).2 = s2 at *
  clear S hs
  go_enter Tryz.func79, Tryz.ntmps79
  go_wp2_with fail
  refine HC.out.mono ?_
  rintro e w1 ⟨rfl, hb⟩
  have HB := hid (HB0.out.trans (hb.mono HB0.out.size))
  clear hb hc0
  have HBA := hid (HB.out.alloc HB.out.size (.cells #[.string s2] 9))
  go_wp2_with fail
  go_ret
  refine ⟨_, rfl, ⟨143, #[.pointer (some ⟨w1.heap.size, 0, none⟩)], rfl, enK1, fun W v hW hv _ => ?_⟩, HBA.out⟩
  rw [HP.out v]
  exact fitK1_any v s2 _ A m W hv (Nat.le_trans HZ.out hq) (HS.out W (HBA.out.trans (hW.mono HBA.out.size))) (cell_below hW (by simp))
set_option maxRecDepth 100000 in
set_option maxHeartbeats 2000000 in
theorem fits_2 (q now : ByteArray) (A : Nat → Addr) (m : Int) (w : World) (hq : q.size ≤ 100) (S : Te w A m) (hs : (sgn q).1 = sLe) :
    Calls Tryz.prog 79 #[.string q, .string now] w fun e w' => ∃ f, e = .returned f ∧ FitC w' f (okQ q now) ∧ Below w.heap.size w w' := by
  have HB0 := hid ((Below.refl w.heap.size w).alloc (Nat.le_refl _) (.cells #[.string q] 9))
  have hc0 : (w.alloc (.cells #[.string q] 9)).cell? ⟨w.heap.size, 0, none⟩ = some (.string q) := by simp
  have HC := hid (cs_any q (w.alloc (.cells #[.string q] 9)))
  have HP := hid (show ∀ v, okQ q now v = (!lessB (sgn q).2.data.toList v.data.toList) from fun v => (okQ_sign (by rw [hs]; exact sg_ne4)).trans (suit_le hs))
  have HZ := hid (sgn_size q)
  have HS := hid (fun W (h : Below w.heap.size w W) => S.below h)
  have k0 : ((sgn q).1.toList == [60]) = false := by rw [hs, ByteArray.toList_eq]; rfl
  have k1 : ((sgn q).1.toList == [60, 61]) = true := by rw [hs, ByteArray.toList_eq]; rfl
  generalize (sgn q).1 = s1 at *
  generalize (sgn q).2 = s2 at *
  clear S hs
  go_enter Tryz.func79, Tryz.ntmps79
  go_wp2_with fail
  refine HC.out.mono ?_
  rintro e w1 ⟨rfl, hb⟩
  have HB := hid (HB0.out.trans (hb.mono HB0.out.size))
  clear hb hc0
  have HBA := hid (HB.out.alloc HB.out.size (.cells #[.string s2] 9))
  go_wp2_with fail
  go_ret
  refine ⟨_, rfl, ⟨144, #[.pointer (some ⟨w1.heap.size, 0, none⟩)], rfl, enK2, fun W v hW hv _ => ?_⟩, HBA.out⟩
  rw [HP.out v]
  exact fitK2_any v s2 _ A m W hv (Nat.le_trans HZ.out hq) (HS.out W (HBA.out.trans (hW.mono HBA.out.size))) (cell_below hW (by simp))
set_option maxRecDepth 100000 in
set_option maxHeartbeats 2000000 in
theorem fits_3 (q now : ByteArray) (A : Nat → Addr) (m : Int) (w : World) (hq : q.size ≤ 100) (S : Te w A m) (hs : (sgn q).1 = sGt) :
    Calls Tryz.prog 79 #[.string q, .string now] w fun e w' => ∃ f, e = .returned f ∧ FitC w' f (okQ q now) ∧ Below w.heap.size w w' := by
  have HB0 := hid ((Below.refl w.heap.size w).alloc (Nat.le_refl _) (.cells #[.string q] 9))
  have hc0 : (w.alloc (.cells #[.string q] 9)).cell? ⟨w.heap.size, 0, none⟩ = some (.string q) := by simp
  have HC := hid (cs_any q (w.alloc (.cells #[.string q] 9)))
  have HP := hid (show ∀ v, okQ q now v = (lessB (sgn q).2.data.toList v.data.toList) from fun v => (okQ_sign (by rw [hs]; exact sg_ne10)).trans (suit_gt hs))
  have HZ := hid (sgn_size q)
  have HS := hid (fun W (h : Below w.heap.size w W) => S.below h)
  have k0 : ((sgn q).1.toList == [60]) = false := by rw [hs, ByteArray.toList_eq]; rfl
  have k1 : ((sgn q).1.toList == [60, 61]) = false := by rw [hs, ByteArray.toList_eq]; rfl
  have k2 : ((sgn q).1.toList == [62]) = true := by rw [hs, ByteArray.toList_eq]; rfl
  generalize (sgn q).1 = s1 at *
  generalize (sgn q).2 = s2 at *
  clear S hs
  go_enter Tryz.func79, Tryz.ntmps79
  go_wp2_with fail
  refine HC.out.mono ?_
  rintro e w1 ⟨rfl, hb⟩
  have HB := hid (HB0.out.trans (hb.mono HB0.out.size))
  clear hb hc0
  have HBA := hid (HB.out.alloc HB.out.size (.cells #[.string s2] 9))
  go_wp2_with fail
  go_ret
  refine ⟨_, rfl, ⟨145, #[.pointer (some ⟨w1.heap.size, 0, none⟩)], rfl, enK3, fun W v hW hv _ => ?_⟩, HBA.out⟩
  rw [HP.out v]
  exact fitK3_any v s2 _ A m W hv (Nat.le_trans HZ.out hq) (HS.out W (HBA.out.trans (hW.mono HBA.out.size))) (cell_below hW (by simp))
set_option maxRecDepth 100000 in
set_option maxHeartbeats 2000000 in
theorem fits_4 (q now : ByteArray) (A : Nat → Addr) (m : Int) (w : World) (hq : q.size ≤ 100) (S : Te w A m) (hs : (sgn q).1 = sGe) :
    Calls Tryz.prog 79 #[.string q, .string now] w fun e w' => ∃ f, e = .returned f ∧ FitC w' f (okQ q now) ∧ Below w.heap.size w w' := by
  have HB0 := hid ((Below.refl w.heap.size w).alloc (Nat.le_refl _) (.cells #[.string q] 9))
  have hc0 : (w.alloc (.cells #[.string q] 9)).cell? ⟨w.heap.size, 0, none⟩ = some (.string q) := by simp
  have HC := hid (cs_any q (w.alloc (.cells #[.string q] 9)))
  have HP := hid (show ∀ v, okQ q now v = (!lessB v.data.toList (sgn q).2.data.toList) from fun v => (okQ_sign (by rw [hs]; exact sg_ne7)).trans (suit_ge hs))
  have HZ := hid (sgn_size q)
  have HS := hid (fun W (h : Below w.heap.size w W) => S.below h)
  have k0 : ((sgn q).1.toList == [60]) = false := by rw [hs, ByteArray.toList_eq]; rfl
  have k1 : ((sgn q).1.toList == [60, 61]) = false := by rw [hs, ByteArray.toList_eq]; rfl
  have k2 : ((sgn q).1.toList == [62]) = false := by rw [hs, ByteArray.toList_eq]; rfl
  have k3 : ((sgn q).1.toList == [62, 61]) = true := by rw [hs, ByteArray.toList_eq]; rfl
  generalize (sgn q).1 = s1 at *
  generalize (sgn q).2 = s2 at *
  clear S hs
  go_enter Tryz.func79, Tryz.ntmps79
  go_wp2_with fail
  refine HC.out.mono ?_
  rintro e w1 ⟨rfl, hb⟩
  have HB := hid (HB0.out.trans (hb.mono HB0.out.size))
  clear hb hc0
  have HBA := hid (HB.out.alloc HB.out.size (.cells #[.string s2] 9))
  go_wp2_with fail
  go_ret
  refine ⟨_, rfl, ⟨146, #[.pointer (some ⟨w1.heap.size, 0, none⟩)], rfl, enK4, fun W v hW hv _ => ?_⟩, HBA.out⟩
  rw [HP.out v]
  exact fitK4_any v s2 _ A m W hv (Nat.le_trans HZ.out hq) (HS.out W (HBA.out.trans (hW.mono HBA.out.size))) (cell_below hW (by simp))
theorem no_signs {q : ByteArray} (hs : (sgn q).1 = bE) : ((sgn q).1.toList == [60]) = false ∧ ((sgn q).1.toList == [60, 61]) = false ∧ ((sgn q).1.toList == [62]) = false ∧ ((sgn q).1.toList == [62, 61]) = false := by
  rw [hs, ByteArray.toList_eq]; exact ⟨rfl, rfl, rfl, rfl⟩
set_option maxRecDepth 100000 in
set_option maxHeartbeats 2000000 in
theorem fits_word (q now : ByteArray) (w : World) (hs : (sgn q).1 = bE) (hw : q = bLatest ∨ q = bUpgrade) :
    Calls Tryz.prog 79 #[.string q, .string now] w fun e w' => ∃ f, e = .returned f ∧ FitC w' f (okQ q now) ∧ Below w.heap.size w w' := by
  have HB0 := hid ((Below.refl w.heap.size w).alloc (Nat.le_refl _) (.cells #[.string q] 9))
  have hc0 : (w.alloc (.cells #[.string q] 9)).cell? ⟨w.heap.size, 0, none⟩ = some (.string q) := by simp
  have HC := hid (cs_any q (w.alloc (.cells #[.string q] 9)))
  have HP := hid (show ∀ v, okQ q now v = true from fun v => okQ_any (by rcases hw with h | h <;> subst h <;> rfl) (fun h => by rcases hw with e | e <;> (rw [e] at h; exact absurd (congrArg (fun m : ByteArray => m.data) h.1) (by decide))))
  obtain ⟨k0, k1, k2, k3⟩ := no_signs hs
  have k4 : (q.toList == [108, 97, 116, 101, 115, 116]) = true ∨ ((q.toList == [108, 97, 116, 101, 115, 116]) = false ∧ (q.toList == [117, 112, 103, 114, 97, 100, 101]) = true) := by
    rcases hw with h | h
    · subst h; rw [ByteArray.toList_eq]; exact Or.inl rfl
    · subst h; rw [ByteArray.toList_eq]; exact Or.inr ⟨rfl, rfl⟩
  generalize (sgn q).1 = s1 at *
  generalize (sgn q).2 = s2 at *
  clear hs hw
  go_enter Tryz.func79, Tryz.ntmps79
  go_wp2_with fail
  refine HC.out.mono ?_
  rintro e w1 ⟨rfl, hb⟩
  have HB := hid (HB0.out.trans (hb.mono HB0.out.size))
  have HBA := hid (HB.out.alloc HB.out.size (.cells #[.string s2] 9))
  have hc1 := cell_below ((Below.refl w1.heap.size w1).alloc (Nat.le_refl _) (.cells #[.string s2] 9)) (cell_below hb hc0)
  have hbl : ¬ w.heap.size = w1.heap.size := by have := hb.size; simp at this; omega
  have hbl2 : ¬ w1.heap.size = w.heap.size := fun h => hbl h.symm
  have hc2 := cell_below hb hc0
  clear hb hc0
  rcases k4 with k4 | ⟨k4, k5⟩
  · go_wp2_with fail
    go_ret
    exact ⟨_, rfl, fit_all _ _ HP.out, HBA.out⟩
  · go_wp2_with fail
    go_ret
    exact ⟨_, rfl, fit_all _ _ HP.out, HBA.out⟩
set_option maxRecDepth 100000 in
set_option maxHeartbeats 2000000 in
theorem fits_patch (now : ByteArray) (A : Nat → Addr) (m : Int) (w : World) (hnow : now.size ≤ 100) (S : Te w A m) (htab : Lib.TabIs Tryz.prog w powName .u64 Lib.pow10Tab) :
    Calls Tryz.prog 79 #[.string bPatch, .string now] w fun e w' => ∃ f, e = .returned f ∧ FitC w' f (okQ bPatch now) ∧ Below w.heap.size w w' := by
  have HB0 := hid ((Below.refl w.heap.size w).alloc (Nat.le_refl _) (.cells #[.string bPatch] 9))
  have hc0 : (w.alloc (.cells #[.string bPatch] 9)).cell? ⟨w.heap.size, 0, none⟩ = some (.string bPatch) := by simp
  have HC := hid (cs_any bPatch (w.alloc (.cells #[.string bPatch] 9)))
  have HF := hid (fun W (h : Below w.heap.size w W) => fpat_any now A m W hnow (S.below h) (tab_below htab h))
  obtain ⟨k0, k1, k2, k3⟩ := no_signs (q := bPatch) rfl
  have k4 : (bPatch.toList == [108, 97, 116, 101, 115, 116]) = false := by rw [ByteArray.toList_eq]; rfl
  have k5 : (bPatch.toList == [117, 112, 103, 114, 97, 100, 101]) = false := by rw [ByteArray.toList_eq]; rfl
  have k6 : (bPatch.toList == [112, 97, 116, 99, 104]) = true := by rw [ByteArray.toList_eq]; rfl
  generalize (sgn bPatch).1 = s1 at *
  generalize (sgn bPatch).2 = s2 at *
  generalize bPatch = q at *
  clear S htab
  go_enter Tryz.func79, Tryz.ntmps79
  go_wp2_with fail
  refine HC.out.mono ?_
  rintro e w1 ⟨rfl, hb⟩
  have HB := hid (HB0.out.trans (hb.mono HB0.out.size))
  have HBA := hid (HB.out.alloc HB.out.size (.cells #[.string s2] 9))
  have hc1 := cell_below ((Below.refl w1.heap.size w1).alloc (Nat.le_refl _) (.cells #[.string s2] 9)) (cell_below hb hc0)
  have hbl : ¬ w.heap.size = w1.heap.size := by have := hb.size; simp at this; omega
  have hbl2 : ¬ w1.heap.size = w.heap.size := fun h => hbl h.symm
  have hc2 := cell_below hb hc0
  clear hb hc0
  go_wp2_with fail
  refine (HF.out _ HBA.out).mono ?_
  rintro e w2 ⟨f, rfl, hf, hb⟩
  have HB2 := hid (HBA.out.trans (hb.mono HBA.out.size))
  have HFC := hid hf
  obtain ⟨K, cb, rfl, -⟩ := hf
  clear hb
  go_wp2_with fail
  go_ret
  exact ⟨_, rfl, HFC.out, HB2.out⟩
set_option maxRecDepth 100000 in
set_option maxHeartbeats 2000000 in
theorem fits_beg (q now : ByteArray) (A : Nat → Addr) (m : Int) (w : World) (hq : q.size ≤ 100) (S : Te w A m) (hs : (sgn q).1 = bE) (hw : isWd q = false) :
    Calls Tryz.prog 79 #[.string q, .string now] w fun e w' => ∃ f, e = .returned f ∧ FitC w' f (okQ q now) ∧ Below w.heap.size w w' := by
  have HB0 := hid ((Below.refl w.heap.size w).alloc (Nat.le_refl _) (.cells #[.string q] 9))
  have hc0 : (w.alloc (.cells #[.string q] 9)).cell? ⟨w.heap.size, 0, none⟩ = some (.string q) := by simp
  have HC := hid (cs_any q (w.alloc (.cells #[.string q] 9)))
  have HP := hid (show ∀ v, verErr v.data.toList = 0 → okQ q now v = beginB v q from fun v hv => (okQ_suit hw).trans (begin_suit hs hv).symm)
  have HS := hid (fun W (h : Below w.heap.size w W) => S.below h)
  obtain ⟨k0, k1, k2, k3⟩ := no_signs hs
  have hwd : ((q.toList == [108, 97, 116, 101, 115, 116]) || (q.toList == [117, 112, 103, 114, 97, 100, 101]) || (q.toList == [112, 97, 116, 99, 104]) || (q.toList == [110, 111, 110, 101])) = false := by
    rw [← hw]
    unfold isWd
    rw [eqW, eqW, eqW, eqW]
    rfl
  rw [Bool.or_eq_false_iff, Bool.or_eq_false_iff, Bool.or_eq_false_iff] at hwd
  obtain ⟨⟨⟨k4, k5⟩, k6⟩, -⟩ := hwd
  generalize (sgn q).1 = s1 at *
  generalize (sgn q).2 = s2 at *
  clear S hs hw
  go_enter Tryz.func79, Tryz.ntmps79
  go_wp2_with fail
  refine HC.out.mono ?_
  rintro e w1 ⟨rfl, hb⟩
  have HB := hid (HB0.out.trans (hb.mono HB0.out.size))
  have HBA := hid (HB.out.alloc HB.out.size (.cells #[.string s2] 9))
  have hc1 := cell_below ((Below.refl w1.heap.size w1).alloc (Nat.le_refl _) (.cells #[.string s2] 9)) (cell_below hb hc0)
  have hbl : ¬ w.heap.size = w1.heap.size := by have := hb.size; simp at this; omega
  have hbl2 : ¬ w1.heap.size = w.heap.size := fun h => hbl h.symm
  have hc2 := cell_below hb hc0
  have HC1 := hid hc1
  clear hb hc0
  go_wp2_with fail
  go_ret
  refine ⟨_, rfl, ⟨149, #[.pointer (some ⟨w.heap.size, 0, none⟩)], rfl, enK5, fun W v hW hv hve => ?_⟩, HBA.out⟩
  rw [HP.out v hve]
  exact fitK5_any v q _ A m W hv hq (HS.out W (HBA.out.trans (hW.mono HBA.out.size))) (cell_below hW HC1.out)
theorem qfits_any (q now : ByteArray) (A : Nat → Addr) (m : Int) (w : World) (hq : q.size ≤ 100) (hnow : now.size ≤ 100) (hn : ¬ q = bNone) (S : Te w A m) (htab : Lib.TabIs Tryz.prog w powName .u64 Lib.pow10Tab) :
    Calls Tryz.prog 79 #[.string q, .string now] w fun e w' => ∃ f, e = .returned f ∧ FitC w' f (okQ q now) ∧ Below w.heap.size w w' := by
  rcases sgn_kind q with h | h | h | h | ⟨h, -⟩
  · exact fits_2 q now A m w hq S h
  · exact fits_4 q now A m w hq S h
  · exact fits_1 q now A m w hq S h
  · exact fits_3 q now A m w hq S h
  · cases hw : isWd q
    · exact fits_beg q now A m w hq S h hw
    · unfold isWd at hw
      simp only [Bool.or_eq_true, decide_eq_true_eq] at hw
      rcases hw with ((e | e) | e) | e
      · exact fits_word q now w h (Or.inl e)
      · exact fits_word q now w h (Or.inr e)
      · subst e; exact fits_patch now A m w hnow S htab
      · exact absurd e hn
end Ve
end Go.Proofs.YtnkgjddkdikikaaGreatDoor
