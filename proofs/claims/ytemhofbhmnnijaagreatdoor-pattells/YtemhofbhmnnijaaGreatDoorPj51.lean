
import Derived.Test.YtemhofbhmnnijaaGreatDoorPj49
namespace Go.Proofs.YtemhofbhmnnijaaGreatDoor
open Go.RowKit
namespace Ve
set_option maxRecDepth 100000 in
set_option maxHeartbeats 2000000 in
theorem pt_long {T : World → Prop} (MC : MatchC T) (WC : WildC T) (KT : StayT T) (p : ByteArray) (X : List ByteArray) (va : Option Addr) (vc : Nat) (w : World) (hT : T w) (h : 60 < p.size ∨ (¬ 60 < p.size ∧ (15 < X.length))) :
    Calls Tryz.prog 3 #[.string p, .slice va X.length vc] w fun e w' => e = .returned (.bool true) ∧ Below w.heap.size w w' := by
  have HPD := hid (patterned_any MC WC KT w hT)
  clear MC WC KT hT
  rcases id h with h0 | ⟨h0, h1⟩
  · have g0 : (60 : Int) < (p.size : Int) := by omega
    clear h
    go_enter Tryz.func3, Tryz.ntmps3
    go_wp2_with fail
    refine HPD.out.mono ?_
    rintro e w1 ⟨rfl, hb⟩
    have HB := hid hb
    clear hb
    go_wp2_with fail
    go_ret
    exact ⟨rfl, HB.out⟩
  · have g0 : ¬ (60 : Int) < (p.size : Int) := by omega
    have g1 : (15 : Int) < (X.length : Int) := by omega
    clear h
    go_enter Tryz.func3, Tryz.ntmps3
    go_wp2_with fail
    refine HPD.out.mono ?_
    rintro e w1 ⟨rfl, hb⟩
    have HB := hid hb
    clear hb
    go_wp2_with fail
    go_ret
    exact ⟨rfl, HB.out⟩
theorem patTells_any {T : World → Prop} {A : Nat → Addr} (MC : MatchC T) (WC : WildC T) (CC : PChkC T A) (SC : SomeC T) (KT : StayT T) (p : ByteArray) (X : List ByteArray) (va : Option Addr) (vc : Nat) (w : World) (hT : T w) (hS : ∀ W, Below w.heap.size w W → Er.Sen W A) (hx : TxAt w (.slice va X.length vc) X) :
    Calls Tryz.prog 3 #[.string p, .slice va X.length vc] w fun e w' => e = .returned (.bool true) ∧ Below w.heap.size w w' := by
  by_cases h0 : 60 < p.size
  · exact pt_long MC WC KT p X va vc w hT (Or.inl h0)
  by_cases h1 : 15 < X.length
  · exact pt_long MC WC KT p X va vc w hT (Or.inr ⟨h0, h1⟩)
  exact pt_main MC WC CC SC KT p X _ w hT hS hx (by omega) (by omega)
end Ve
end Go.Proofs.YtemhofbhmnnijaaGreatDoor
