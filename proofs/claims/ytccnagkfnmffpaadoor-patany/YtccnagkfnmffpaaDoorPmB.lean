/-
  What Match and Wild of package pat answer for any pattern and any text; nothing old in memory turns.
-/
import Derived.Test.YtccnagkfnmffpaaDoorPmP
import Derived.Test.YtccnagkfnmffpaaDoorPtP
import Derived.Test.YtccnagkfnmffpaaDoorIdA
import Derived.Test.YtccnagkfnmffpaaDoorShelfX
namespace Go.Proofs.YtccnagkfnmffpaaDoor
open Go.RowKit
namespace Ve

/-- A test of texts, as a function in memory. -/
def TstC (w : World) (f : Value) (P : ByteArray → Bool) : Prop := ∃ K cb, f = .func (.func K) #[] cb ∧ (∀ args w, (callFunc K args).run Tryd.prog w = .ok (.enter K args) w) ∧
  ∀ W s, Below w.heap.size w W → s.size ≤ 100 → Calls Tryd.prog K (#[.string s] ++ cb) W fun e W' => e = .returned (.bool (P s)) ∧ Below W.heap.size W W'
theorem TstC.below {w w' : World} {f : Value} {P : ByteArray → Bool} (h : TstC w f P) (hb : Below w.heap.size w w') : TstC w' f P := by
  obtain ⟨K, cb, e, en, hK⟩ := h
  exact ⟨K, cb, e, en, fun W s hW hs => hK W s (hb.trans (hW.mono hb.size)) hs⟩
theorem enPc1 : ∀ args w, (callFunc 14 args).run Tryd.prog w = .ok (.enter 14 args) w := enters_of Tryd.func14 (by kernel_rfl) rfl
theorem enPc2 : ∀ args w, (callFunc 15 args).run Tryd.prog w = .ok (.enter 15 args) w := enters_of Tryd.func15 (by kernel_rfl) rfl
theorem enMr1 : ∀ args w, (callFunc 11 args).run Tryd.prog w = .ok (.enter 11 args) w := enters_of Tryd.func11 (by kernel_rfl) rfl
theorem bl_split3 (s : ByteArray) : bl (Lib.splitB ⟨#[46, 46, 46]⟩ 0 (Lib.countB s ⟨#[46, 46, 46]⟩) s) = pcs s.data.toList := by
  unfold bl
  rw [Lib.splitB_data]; rfl
/-- strings.Split at any text. -/
theorem split3_any (s : ByteArray) (m : Int) (w : World) (hs : s.size < 4294967281) (hm : w.cell? ⟨0, 0, none⟩ = some (.int .i64 m)) :
    Calls Tryd.prog 13 #[.string s, .string ⟨#[46, 46, 46]⟩] w fun e w' => ∃ X : List ByteArray, e = .returned (.slice (some ⟨w.heap.size, 0, none⟩) X.length X.length) ∧ bl X = pcs s.data.toList ∧
      (∀ j (h : j < X.length), w'.cell? ⟨w.heap.size, j, none⟩ = some (.string X[j])) ∧ Below w.heap.size w w' := by
  refine (Tryd.strings_Split s ⟨#[46, 46, 46]⟩ m w hs hm (by decide)).mono fun e w' ⟨h1, h2⟩ => ?_
  have hlen := Lib.splitB_all ⟨#[46, 46, 46]⟩ (by decide) 0 _ s rfl
  refine ⟨Lib.splitB ⟨#[46, 46, 46]⟩ 0 (Lib.countB s ⟨#[46, 46, 46]⟩) s, ?_, bl_split3 s, ?_, ?_⟩
  · rw [h1, hlen]
  · intro j hj
    rw [h2, World.cell?_alloc_at _ _ _ _ rfl]
    simp [hj]
  · rw [h2]; exact (Below.refl _ _).alloc (Nat.le_refl _) _
theorem pcK1_any (s p : ByteArray) (b : Nat) (W : World) (h0 : W.cell? ⟨b, 0, none⟩ = some (.string p)) :
    Calls Tryd.prog 14 (#[.string s] ++ #[.pointer (some ⟨b, 0, none⟩)]) W fun e W' => e = .returned (.bool (s.toList == p.toList)) ∧ Below W.heap.size W W' := by
  show Calls Tryd.prog 14 #[.string s, .pointer (some ⟨b, 0, none⟩)] W _
  go_enter Tryd.func14, Tryd.ntmps14
  go_wp2_with fail
  go_ret
  exact ⟨rfl, Below.refl _ _⟩
theorem mrK_any (s : ByteArray) (P Q : ByteArray → Bool) (f g : Value) (b c : Nat) (W : World) (hs : s.size ≤ 100) (hf : TstC W f P) (hg : TstC W g Q) (h0 : W.cell? ⟨b, 0, none⟩ = some f) (h1 : W.cell? ⟨c, 0, none⟩ = some g) :
    Calls Tryd.prog 11 (#[.string s] ++ #[.pointer (some ⟨b, 0, none⟩), .pointer (some ⟨c, 0, none⟩)]) W fun e W' => e = .returned (.bool (P s || Q s)) ∧ Below W.heap.size W W' := by
  show Calls Tryd.prog 11 #[.string s, .pointer (some ⟨b, 0, none⟩), .pointer (some ⟨c, 0, none⟩)] W _
  obtain ⟨K, cb, rfl, en, hK⟩ := hf
  obtain ⟨K2, cb2, rfl, en2, hK2⟩ := hg
  have HK := hid (hK W s (Below.refl _ _) hs)
  have HK2 := hid (fun W' (hb : Below W.heap.size W W') => hK2 W' s hb hs)
  have HC2 := hid (fun W' (hb : Below W.heap.size W W') => cell_below hb h1)
  clear hK hK2
  generalize Q s = y at *
  cases hz : P s
  · rw [hz] at HK
    clear hz
    go_enter Tryd.func11, Tryd.ntmps11
    go_wp2_with fail
    refine HK.out.mono ?_
    rintro e w1 ⟨rfl, hb⟩
    have HB := hid hb
    have x1 := HC2.out _ hb
    clear hb
    go_wp2_with fail
    refine (HK2.out _ HB.out).mono ?_
    rintro e w2 ⟨rfl, hb⟩
    have HB2 := hid (HB.out.trans (hb.mono HB.out.size))
    clear hb
    go_wp2_with fail
    go_ret
    exact ⟨rfl, HB2.out⟩
  · rw [hz] at HK
    clear hz
    go_enter Tryd.func11, Tryd.ntmps11
    go_wp2_with fail
    refine HK.out.mono ?_
    rintro e w1 ⟨rfl, hb⟩
    have HB := hid hb
    clear hb
    go_wp2_with fail
    go_ret
    exact ⟨rfl, HB.out⟩
/-- pat.Wild. -/
theorem wild_m (m : Int) : WildC (fun w => w.cell? ⟨0, 0, none⟩ = some (.int .i64 m)) := fun p w hp hm => by
  have HC := hid (Tryd.strings_Contains p ⟨#[46, 46, 46]⟩ m w (by omega) hm)
  have HW := hid (wild_is p)
  clear hm
  go_enter Tryd.func6, Tryd.ntmps6
  go_wp2_with fail
  refine HC.out.mono ?_
  rintro e w1 ⟨rfl, rfl⟩
  go_wp2_with fail
  go_ret
  exact ⟨by rw [HW.out]; rfl, Below.refl _ _⟩
end Ve
end Go.Proofs.YtccnagkfnmffpaaDoor
