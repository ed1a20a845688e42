
import Derived.Test.YtemhofbhmnnijaaGreatDoorPj18
import Derived.Test.YtemhofbhmnnijaaGreatDoorPj19
import Derived.Test.YtemhofbhmnnijaaGreatDoorPj12
import Derived.Test.YtemhofbhmnnijaaGreatDoorPj6
namespace Go.Proofs.YtemhofbhmnnijaaGreatDoor
open Go.RowKit
namespace Ve
def TstC (w : World) (f : Value) (P : ByteArray → Bool) : Prop := ∃ K cb, f = .func (.func K) #[] cb ∧ (∀ args w, (callFunc K args).run Tryz.prog w = .ok (.enter K args) w) ∧
  ∀ W s, Below w.heap.size w W → s.size ≤ 100 → Calls Tryz.prog K (#[.string s] ++ cb) W fun e W' => e = .returned (.bool (P s)) ∧ Below W.heap.size W W'
theorem TstC.below {w w' : World} {f : Value} {P : ByteArray → Bool} (h : TstC w f P) (hb : Below w.heap.size w w') : TstC w' f P := by
  obtain ⟨K, cb, e, en, hK⟩ := h
  exact ⟨K, cb, e, en, fun W s hW hs => hK W s (hb.trans (hW.mono hb.size)) hs⟩
theorem enPc1 : ∀ args w, (callFunc 48 args).run Tryz.prog w = .ok (.enter 48 args) w := enters_of Tryz.func48 (by kernel_rfl) rfl
theorem enPc2 : ∀ args w, (callFunc 49 args).run Tryz.prog w = .ok (.enter 49 args) w := enters_of Tryz.func49 (by kernel_rfl) rfl
theorem enMr1 : ∀ args w, (callFunc 31 args).run Tryz.prog w = .ok (.enter 31 args) w := enters_of Tryz.func31 (by kernel_rfl) rfl
theorem bl_split3 (s : ByteArray) : bl (Lib.splitB ⟨#[46, 46, 46]⟩ 0 (Lib.countB s ⟨#[46, 46, 46]⟩) s) = pcs s.data.toList := by
  unfold bl
  rw [Lib.splitB_data]; rfl
theorem split3_any (s : ByteArray) (m : Int) (w : World) (hs : s.size < 4294967281) (hm : w.cell? ⟨11, 0, none⟩ = some (.int .i64 m)) :
    Calls Tryz.prog 47 #[.string s, .string ⟨#[46, 46, 46]⟩] w fun e w' => ∃ X : List ByteArray, e = .returned (.slice (some ⟨w.heap.size, 0, none⟩) X.length X.length) ∧ bl X = pcs s.data.toList ∧
      (∀ j (h : j < X.length), w'.cell? ⟨w.heap.size, j, none⟩ = some (.string X[j])) ∧ Below w.heap.size w w' := by
  refine (Tryz.strings_Split s ⟨#[46, 46, 46]⟩ m w hs hm (by decide)).mono fun e w' ⟨h1, h2⟩ => ?_
  have hlen := Lib.splitB_all ⟨#[46, 46, 46]⟩ (by decide) 0 _ s rfl
  refine ⟨Lib.splitB ⟨#[46, 46, 46]⟩ 0 (Lib.countB s ⟨#[46, 46, 46]⟩) s, ?_, bl_split3 s, ?_, ?_⟩
  · rw [h1, hlen]
  · intro j hj
    rw [h2, World.cell?_alloc_at _ _ _ _ rfl]
    simp [hj]
  · rw [h2]; exact (Below.refl _ _).alloc (Nat.le_refl _) _
theorem pcK1_any (s p : ByteArray) (b : Nat) (W : World) (h0 : W.cell? ⟨b, 0, none⟩ = some (.string p)) :
    Calls Tryz.prog 48 (#[.string s] ++ #[.pointer (some ⟨b, 0, none⟩)]) W fun e W' => e = .returned (.bool (s.toList == p.toList)) ∧ Below W.heap.size W W' := by
  show Calls Tryz.prog 48 #[.string s, .pointer (some ⟨b, 0, none⟩)] W _
  go_enter Tryz.func48, Tryz.ntmps48
  go_wp2_with fail
  go_ret
  exact ⟨rfl, Below.refl _ _⟩
theorem mrK_any (s : ByteArray) (P Q : ByteArray → Bool) (f g : Value) (b c : Nat) (W : World) (hs : s.size ≤ 100) (hf : TstC W f P) (hg : TstC W g Q) (h0 : W.cell? ⟨b, 0, none⟩ = some f) (h1 : W.cell? ⟨c, 0, none⟩ = some g) :
    Calls Tryz.prog 31 (#[.string s] ++ #[.pointer (some ⟨b, 0, none⟩), .pointer (some ⟨c, 0, none⟩)]) W fun e W' => e = .returned (.bool (P s || Q s)) ∧ Below W.heap.size W W' := by
  show Calls Tryz.prog 31 #[.string s, .pointer (some ⟨b, 0, none⟩), .pointer (some ⟨c, 0, none⟩)] W _
  obtain ⟨K, cb, rfl, en, hK⟩ := hf
  obtain ⟨K2, cb2, rfl, en2, hK2⟩ := hg
  have HK := hid (hK W s (Below.refl _ _) hs)
  have HK2 := hid (fun W' (hb : Below W.heap.size W W') => hK2 W' s hb hs)
  have HC2 := hid (fun W' (hb : Below W.heap.size W W') => cell_below hb h1)
  clear hK hK2
  generalize Q s = y at *
  cases hz : P s
  · rw [hz] at HK
    clear hz
    go_enter Tryz.func31, Tryz.ntmps31
    go_wp2_with fail
    refine HK.out.mono ?_
    rintro e w1 ⟨rfl, hb⟩
    have HB := hid hb
    have x1 := HC2.out _ hb
    clear hb
    go_wp2_with fail
    refine (HK2.out _ HB.out).mono ?_
    rintro e w2 ⟨rfl, hb⟩
    have HB2 := hid (HB.out.trans (hb.mono HB.out.size))
    clear hb
    go_wp2_with fail
    go_ret
    exact ⟨rfl, HB2.out⟩
  · rw [hz] at HK
    clear hz
    go_enter Tryz.func31, Tryz.ntmps31
    go_wp2_with fail
    refine HK.out.mono ?_
    rintro e w1 ⟨rfl, hb⟩
    have HB := hid hb
    clear hb
    go_wp2_with fail
    go_ret
    exact ⟨rfl, HB.out⟩
theorem wild_m (m : Int) : WildC (fun w => w.cell? ⟨11, 0, none⟩ = some (.int .i64 m)) := fun p w hp hm => by
  have HC := hid (Tryz.strings_Contains p ⟨#[46, 46, 46]⟩ m w (by omega) hm)
  have HW := hid (wild_is p)
  clear hm
  go_enter Tryz.func9, Tryz.ntmps9
  go_wp2_with fail
  refine HC.out.mono ?_
  rintro e w1 ⟨rfl, rfl⟩
  go_wp2_with fail
  go_ret
  exact ⟨by rw [HW.out]; rfl, Below.refl _ _⟩
end Ve
end Go.Proofs.YtemhofbhmnnijaaGreatDoor
