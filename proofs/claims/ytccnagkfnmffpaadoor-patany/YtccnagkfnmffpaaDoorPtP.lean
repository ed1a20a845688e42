/-
  What is asked of Match, Wild, Check and Some of package pat (their contracts, by name); the closed fact of the statements.
-/
import Derived.Test.YtccnagkfnmffpaaDoorPaQ
namespace Go.Proofs.YtccnagkfnmffpaaDoor
open Go.RowKit
namespace Ve

/-- What stays so where old memory stays as it is. -/
def StayT (T : World → Prop) : Prop := ∀ W W', T W → Below W.heap.size W W' → T W'
/-- T: what the laid variables give. -/
def MatchC (T : World → Prop) : Prop := ∀ (p s : ByteArray) (w : World), p.size ≤ 100 → s.size ≤ 100 → T w → Calls Tryd.prog 5 #[.string p, .string s] w fun e w' => e = .returned (.bool (ismB p s)) ∧ Below w.heap.size w w'
def WildC (T : World → Prop) : Prop := ∀ (p : ByteArray) (w : World), p.size ≤ 100 → T w → Calls Tryd.prog 6 #[.string p] w fun e w' => e = .returned (.bool (wildB p)) ∧ Below w.heap.size w w'
set_option maxRecDepth 100000 in
theorem pd_1 : ismB ⟨#[97, 47, 46, 46, 46]⟩ ⟨#[97]⟩ = true := by decide
set_option maxRecDepth 100000 in
theorem pd_2 : ismB ⟨#[97, 47, 46, 46, 46, 99]⟩ ⟨#[97, 47, 98, 47, 99]⟩ = true := by decide
set_option maxRecDepth 100000 in
theorem pd_3 : ismB ⟨#[97, 46, 46, 46]⟩ ⟨#[98]⟩ = false := by decide
set_option maxRecDepth 100000 in
theorem pd_4 : wildB ⟨#[97, 46, 46, 46]⟩ = true := by decide
/-- pewholderlaw3.patterned. -/
theorem patterned_any {T : World → Prop} (MC : MatchC T) (WC : WildC T) (KT : StayT T) (w : World) (hT : T w) : Calls Tryd.prog 4 #[] w fun e w' => e = .returned (.bool true) ∧ Below w.heap.size w w' := by
  have H1 := hid (MC ⟨#[97, 47, 46, 46, 46]⟩ ⟨#[97]⟩ w (by decide) (by decide) hT)
  have H2 := hid (fun W (h : Below w.heap.size w W) => MC ⟨#[97, 47, 46, 46, 46, 99]⟩ ⟨#[97, 47, 98, 47, 99]⟩ W (by decide) (by decide) (KT w W hT h))
  have H3 := hid (fun W (h : Below w.heap.size w W) => MC ⟨#[97, 46, 46, 46]⟩ ⟨#[98]⟩ W (by decide) (by decide) (KT w W hT h))
  have H4 := hid (fun W (h : Below w.heap.size w W) => WC ⟨#[97, 46, 46, 46]⟩ W (by decide) (KT w W hT h))
  rw [pd_1] at H1
  rw [pd_2] at H2
  rw [pd_3] at H3
  rw [pd_4] at H4
  clear MC WC KT hT
  go_enter Tryd.func4, Tryd.ntmps4
  go_wp2_with fail
  refine H1.out.mono ?_
  rintro e w1 ⟨rfl, hb⟩
  have HB1 := hid hb
  clear hb
  go_wp2_with fail
  refine (H2.out _ HB1.out).mono ?_
  rintro e w2 ⟨rfl, hb⟩
  have HB2 := hid (HB1.out.trans (hb.mono HB1.out.size))
  clear hb
  go_wp2_with fail
  refine (H3.out _ HB2.out).mono ?_
  rintro e w3 ⟨rfl, hb⟩
  have HB3 := hid (HB2.out.trans (hb.mono HB2.out.size))
  clear hb
  go_wp2_with fail
  refine (H4.out _ HB3.out).mono ?_
  rintro e w4 ⟨rfl, hb⟩
  have HB4 := hid (HB3.out.trans (hb.mono HB3.out.size))
  clear hb
  go_wp2_with fail
  go_ret
  exact ⟨rfl, HB4.out⟩
end Ve
end Go.Proofs.YtccnagkfnmffpaaDoor
