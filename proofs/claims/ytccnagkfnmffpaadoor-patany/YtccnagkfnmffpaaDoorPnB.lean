/-
  pewholderlaw3.PatAny where what is given is too long; and for any input.
-/
import Derived.Test.YtccnagkfnmffpaaDoorPnA
namespace Go.Proofs.YtccnagkfnmffpaaDoor
open Go.RowKit
namespace Ve

set_option maxRecDepth 100000 in
set_option maxHeartbeats 2000000 in
theorem pn_long {T : World → Prop} (MC : MatchC T) (WC : WildC T) (KT : StayT T) (a b s t u : ByteArray) (w : World) (hT : T w) (h : 30 < a.size ∨ (¬ 30 < a.size ∧ (30 < b.size ∨ (¬ 30 < b.size ∧ (30 < s.size ∨ (¬ 30 < s.size ∧ (30 < t.size ∨ (¬ 30 < t.size ∧ (30 < u.size))))))))) :
    Calls Tryd.prog 3 #[.string a, .string b, .string s, .string t, .string u] w fun e w' => e = .returned (.bool true) ∧ Below w.heap.size w w' := by
  have HPD := hid (patterned_any MC WC KT w hT)
  clear MC WC KT hT
  rcases id h with h0 | ⟨h0, h1 | ⟨h1, h2 | ⟨h2, h3 | ⟨h3, h4⟩⟩⟩⟩
  · have g0 : (30 : Int) < (a.size : Int) := by omega
    clear h
    go_enter Tryd.func3, Tryd.ntmps3
    go_wp2_with fail
    refine HPD.out.mono ?_
    rintro e w1 ⟨rfl, hb⟩
    have HB := hid hb
    clear hb
    go_wp2_with fail
    go_ret
    exact ⟨rfl, HB.out⟩
  · have g0 : ¬ (30 : Int) < (a.size : Int) := by omega
    have g1 : (30 : Int) < (b.size : Int) := by omega
    clear h
    go_enter Tryd.func3, Tryd.ntmps3
    go_wp2_with fail
    refine HPD.out.mono ?_
    rintro e w1 ⟨rfl, hb⟩
    have HB := hid hb
    clear hb
    go_wp2_with fail
    go_ret
    exact ⟨rfl, HB.out⟩
  · have g0 : ¬ (30 : Int) < (a.size : Int) := by omega
    have g1 : ¬ (30 : Int) < (b.size : Int) := by omega
    have g2 : (30 : Int) < (s.size : Int) := by omega
    clear h
    go_enter Tryd.func3, Tryd.ntmps3
    go_wp2_with fail
    refine HPD.out.mono ?_
    rintro e w1 ⟨rfl, hb⟩
    have HB := hid hb
    clear hb
    go_wp2_with fail
    go_ret
    exact ⟨rfl, HB.out⟩
  · have g0 : ¬ (30 : Int) < (a.size : Int) := by omega
    have g1 : ¬ (30 : Int) < (b.size : Int) := by omega
    have g2 : ¬ (30 : Int) < (s.size : Int) := by omega
    have g3 : (30 : Int) < (t.size : Int) := by omega
    clear h
    go_enter Tryd.func3, Tryd.ntmps3
    go_wp2_with fail
    refine HPD.out.mono ?_
    rintro e w1 ⟨rfl, hb⟩
    have HB := hid hb
    clear hb
    go_wp2_with fail
    go_ret
    exact ⟨rfl, HB.out⟩
  · have g0 : ¬ (30 : Int) < (a.size : Int) := by omega
    have g1 : ¬ (30 : Int) < (b.size : Int) := by omega
    have g2 : ¬ (30 : Int) < (s.size : Int) := by omega
    have g3 : ¬ (30 : Int) < (t.size : Int) := by omega
    have g4 : (30 : Int) < (u.size : Int) := by omega
    clear h
    go_enter Tryd.func3, Tryd.ntmps3
    go_wp2_with fail
    refine HPD.out.mono ?_
    rintro e w1 ⟨rfl, hb⟩
    have HB := hid hb
    clear hb
    go_wp2_with fail
    go_ret
    exact ⟨rfl, HB.out⟩
theorem patAny_any {T : World → Prop}  (MC : MatchC T) (WC : WildC T) (KT : StayT T) (a b s t u : ByteArray) (w : World) (hT : T w) :
    Calls Tryd.prog 3 #[.string a, .string b, .string s, .string t, .string u] w fun e w' => e = .returned (.bool true) ∧ Below w.heap.size w w' := by
  by_cases h0 : 30 < a.size
  · exact pn_long MC WC KT a b s t u w hT (Or.inl h0)
  by_cases h1 : 30 < b.size
  · exact pn_long MC WC KT a b s t u w hT (Or.inr ⟨h0, Or.inl h1⟩)
  by_cases h2 : 30 < s.size
  · exact pn_long MC WC KT a b s t u w hT (Or.inr ⟨h0, Or.inr ⟨h1, Or.inl h2⟩⟩)
  by_cases h3 : 30 < t.size
  · exact pn_long MC WC KT a b s t u w hT (Or.inr ⟨h0, Or.inr ⟨h1, Or.inr ⟨h2, Or.inl h3⟩⟩⟩)
  by_cases h4 : 30 < u.size
  · exact pn_long MC WC KT a b s t u w hT (Or.inr ⟨h0, Or.inr ⟨h1, Or.inr ⟨h2, Or.inr ⟨h3, h4⟩⟩⟩⟩)
  exact pn_main MC WC KT a b s t u w hT (by omega) (by omega) (by omega) (by omega) (by omega)
end Ve
end Go.Proofs.YtccnagkfnmffpaaDoor
