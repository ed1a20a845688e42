/-
  MtP MvI
-/
import Derived.Test.YtlcffhadobhfkaaGreatDoorMq20
import Derived.Test.YtlcffhadobhfkaaGreatDoorMq6
import Derived.Test.YtlcffhadobhfkaaGreatDoorMq19
import Derived.Test.YtlcffhadobhfkaaGreatDoorMq22
import Derived.Test.YtlcffhadobhfkaaGreatDoorMq45
import Derived.Test.YtlcffhadobhfkaaGreatDoorMq3
import Derived.Test.YtlcffhadobhfkaaGreatDoorMq5
import Derived.Test.YtlcffhadobhfkaaGreatDoorMq11
import Derived.Test.YtlcffhadobhfkaaGreatDoorMq9
import Derived.Test.YtlcffhadobhfkaaGreatDoorMq2
import Derived.Test.YtlcffhadobhfkaaGreatDoorMq18
import Derived.Test.YtlcffhadobhfkaaGreatDoorMq23
import Derived.Test.YtlcffhadobhfkaaGreatDoorMq17
import Derived.Test.YtlcffhadobhfkaaGreatDoorMq34
import Derived.Test.YtlcffhadobhfkaaGreatDoorMq56
namespace Go.Proofs.YtlcffhadobhfkaaGreatDoor
open Go.RowKit Go.Maps
namespace Ve
theorem box2J {W : World} {g : Nat} {x y : Value} {T : TypeId} (h : W.heap[g]? = some (.cells #[x,y] T (0,0))) : W.cell? ⟨g,0,none⟩ = some x /\ W.cell? ⟨g,1,none⟩ = some y /\ ∀ o,W.frozen? ⟨g,o,none⟩ = false:=
  ⟨by rw [Lib.cell_of_heap h]; rfl,by rw [Lib.cell_of_heap h]; rfl,fun o=>Lib.frozen_of_heap h o⟩
theorem geqB (a b : ByteArray) (X : World) : (binOp BinOp.geq 9 (.string a) (.string b)).run Tryz.prog X = .ok (.bool (!lt a b)) X:=by rw [<- noLess_lt,<- noLess_is]; rfl
theorem isSel_none (a : Option Addr) (c : Nat) (w : World) : Calls Tryz.prog 91 #[.slice a 0 c] w fun e w'=>e = .returned (.bool true) /\ Below w.heap.size w w':=by
  go_enter Tryz.func91,Tryz.ntmps91
  go_wp2_with fail
  go_loopw [3] (fun i wr=>i = .int .i64 1 /\ wr = w) (fun i _=>0)
  case atStart=>exact ⟨rfl,rfl⟩
  case round=>
    obtain ⟨rfl,rfl⟩:=hrel
    go_wp2_with fail
    go_ret
    exact ⟨rfl,Below.refl _ _⟩
set_option maxHeartbeats 2000000 in
theorem isSel_some (L : List Bm) (b o c : Nat) (w : World) (hn : L.length ≤ 1000000) (h0 : 0 < L.length)
    (hc : ∀ j (h : j < L.length),w.cell? ⟨b,o + j * 2,none⟩ = some (.string L[j].1) /\ w.cell? ⟨b,o + j * 2 + 1,none⟩ = some (.string L[j].2)) :
    Calls Tryz.prog 91 #[.slice (some ⟨b,o,none⟩) L.length c] w fun e w'=>e = .returned (.bool (risB2 L)) /\ Below w.heap.size w w':=by
  have HC:=hid hc
  have HX:=hid (show (∀ j (h : j + 1 < L.length),lt (L[j]'(by omega)).1 L[j + 1].1 = true) -> risB2 L = true from fun h=>risB2_all h)
  have HY:=hid (show ∀ j (h : j + 1 < L.length),lt (L[j]'(by omega)).1 L[j + 1].1 = false -> risB2 L = false from fun j h hne=>risB2_not h hne)
  generalize risB2 L = z at *
  clear hc
  go_enter Tryz.func91,Tryz.ntmps91
  go_wp2_with fail
  go_loopw [3] (fun i wr=>∃ k : Nat,k + 1 <= L.length /\ i = .int .i64 ((k : Int) + 1) /\ Hid (∀ j (h : j + 1 < L.length),j < k -> lt (L[j]'(by omega)).1 L[j + 1].1 = true) /\ Hid (Below w.heap.size w wr)) (fun i _=>L.length - (intOf i).toNat)
  case atStart=>exact ⟨0,h0,rfl,hid (fun j _ hj=>absurd hj (Nat.not_lt_zero _)),hid (Below.refl _ _)⟩
  case round=>
    obtain ⟨k,hk,rfl,HE,HB⟩:=hrel
    by_cases hlt : k + 1 < L.length
    · have hx:=cell_below HB.out (HC.out k (Nat.lt_of_succ_lt hlt)).1
      have hx':=cell_below HB.out (HC.out (k + 1) hlt).1
      have hge:=fun W=>geqB (L[k]'(by omega)).1 L[k + 1].1 W
      have hkI : (k : Int) + 1 < (L.length : Int):=by omega
      have kx1 : (0 : Int) <= (k : Int) + 1:=by omega
      have kx2 : (k : Int) + 1 - 1 = (k : Int):=by omega
      have kx3 : (k : Int) < (L.length : Int):=by omega
      have kx4 : (0 : Int) <= (k : Int):=by omega
      have ktn : ((k : Int) + 1).toNat = k + 1:=by omega
      have kw0 : wrap64 (k : Int) = (k : Int):=IntWalk.wrap64_in _ (by omega)
      have kw1 : IntKind.i64.wrap (k : Int) = (k : Int):=by rw [IntKind.wrap_i64] <;> omega
      have kw2 : wrap64 ((k : Int) + 1 + 1) = (k : Int) + 1 + 1:=IntWalk.wrap64_in _ (by omega)
      have HLT:=hid hlt
      have HN:=hid (show lt (L[k]'(by omega)).1 L[k + 1].1 = true -> ∀ j (h : j + 1 < L.length),j < k + 1 -> lt (L[j]'(by omega)).1 L[j + 1].1 = true from fun h0 j h1 h2=>by
        rcases Nat.lt_or_ge j k with h | h
        · exact HE.out j h1 h
        · have : j = k:=by omega
          subst this; exact h0)
      have HYK:=hid (HY.out k hlt)
      generalize (L[k]'(Nat.lt_of_succ_lt hlt)) = x at *
      generalize (L[k + 1]'hlt) = y at *
      obtain ⟨x1,x2⟩:=x
      obtain ⟨y1,y2⟩:=y
      simp only at hx hx' hge HN HYK
      clear hlt hk
      cases he : lt x1 y1 with
      | true=>
        have HN2:=hid (HN.out he)
        rw [he] at hge
        clear he HN HYK
        go_wp2_with fail
        go_quiet (fail)
        go_wp2_with fail
        go_roundw
        case rel=>exact ⟨k + 1,HLT.out,by first | rfl | (simp only [kw2]; push_cast; rfl),HN2,hid (below_drawn_of HB.out _)⟩
        case measure=>
          have:=HLT.out
          simp only [intOf]
          omega
      | false=>
        have HZ:=hid (HYK.out he)
        rw [he] at hge
        clear he HN HYK
        go_wp2_with fail
        go_quiet (fail)
        go_wp2_with fail
        go_ret
        exact ⟨by rw [HZ.out]; rfl,below_drawn_of HB.out _⟩
    · have hkI : ¬ (k : Int) + 1 < (L.length : Int):=by omega
      have HZ:=hid (HX.out (fun j h=>HE.out j h (by omega)))
      go_wp2_with fail
      go_ret
      exact ⟨by rw [HZ.out]; rfl,HB.out⟩
theorem isSel_any (L : List Bm) (v : Value) (w : World) (hv : MsAt w v L) (hn : L.length <= 1000000) :
    Calls Tryz.prog 91 #[v] w fun e w'=>e = .returned (.bool (risB2 L)) /\ Below w.heap.size w w':=by
  obtain ⟨a,c,rfl,_,h⟩:=hv
  cases L with
  | nil=>exact isSel_none a c w
  | cons x r=>
    obtain ⟨b,o,rfl,h2⟩:=h (by simp)
    exact isSel_some (x :: r) b o c w hn (by simp) h2
end Ve
end Go.Proofs.YtlcffhadobhfkaaGreatDoor
