/-
  DaB
-/
import Derived.Test.YtlcffhadobhfkaaGreatDoorMq3
import Derived.Test.YtlcffhadobhfkaaGreatDoorMq5
import Derived.Test.YtlcffhadobhfkaaGreatDoorMq6
import Derived.Test.YtlcffhadobhfkaaGreatDoorMq9
import Derived.Test.YtlcffhadobhfkaaGreatDoorMq11
import Derived.Test.YtlcffhadobhfkaaGreatDoorMq2
import Derived.Test.YtlcffhadobhfkaaGreatDoorMq18
import Derived.Test.YtlcffhadobhfkaaGreatDoorMq19
import Derived.Test.YtlcffhadobhfkaaGreatDoorMq17
import Derived.Test.YtlcffhadobhfkaaGreatDoorMq20
import Derived.Test.YtlcffhadobhfkaaGreatDoorMq23
import Derived.Test.YtlcffhadobhfkaaGreatDoorMq42
import Derived.Test.YtlcffhadobhfkaaGreatDoorMq22
import Derived.Test.YtlcffhadobhfkaaGreatDoorMq45
import Derived.Test.YtlcffhadobhfkaaGreatDoorMq39
import Derived.Test.YtlcffhadobhfkaaGreatDoorMq34
import Derived.Test.YtlcffhadobhfkaaGreatDoorMq36
import Derived.Test.YtlcffhadobhfkaaGreatDoorMq37
import Derived.Test.YtlcffhadobhfkaaGreatDoorMq48
import Derived.Test.YtlcffhadobhfkaaGreatDoorMq87
import Derived.Test.YtlcffhadobhfkaaGreatDoorMq88
import Derived.Test.YtlcffhadobhfkaaGreatDoorMq90
import Derived.Test.YtlcffhadobhfkaaGreatDoorMq38
import Derived.Test.YtlcffhadobhfkaaGreatDoorMq99
namespace Go.Proofs.YtlcffhadobhfkaaGreatDoor
open Go.RowKit Go.Maps
namespace Ve
set_option maxRecDepth 100000 in
set_option maxHeartbeats 2000000 in
theorem da_long1 (Q0 : List Raw) (L : List Ent) (roots caps : List Bm) (v u s : Value) (A : Nat -> Addr) (m : Int) (w : World) (at_ : Int) (S : Te w A m) (I : Ixs w v Q0 L) (hr : MsAt w u roots) (hc : MsAt w s caps) (hok : okI L = false) :
    Calls Tryz.prog 12 #[v,u,s,.int .i64 at_] w fun e w'=>e = .returned (.bool true) /\ Below w.heap.size w w':=by
  obtain ⟨a0,c0,hv0,-⟩:=id I.es
  subst hv0
  obtain ⟨ra,rc,hu0,-⟩:=id hr
  subst hu0
  obtain ⟨ca,cc,hs0,-⟩:=id hc
  subst hs0
  have HIN:=hid (low_any A m w S)
  have HLO:=hid (fun W (h : Below w.heap.size w W)=>longI_any Q0 L _ W (I.below h))
  rw [hok] at HLO
  clear S I hok hr hc
  go_enter Tryz.func12,Tryz.ntmps12
  go_wp2_with fail
  refine HIN.out.mono ?_
  rintro e w1 ⟨rfl,hb⟩
  have HB1:=hid hb
  clear hb
  go_wp2_with fail
  refine (HLO.out w1 HB1.out).mono ?_
  rintro e w2 ⟨rfl,hb⟩
  have HB2:=hid (HB1.out.trans (hb.mono HB1.out.size))
  clear hb
  go_wp2_with fail
  go_ret
  exact ⟨rfl,HB2.out⟩
set_option maxRecDepth 100000 in
set_option maxHeartbeats 2000000 in
theorem da_long2 (Q0 : List Raw) (L : List Ent) (roots caps : List Bm) (v u s : Value) (A : Nat -> Addr) (m : Int) (w : World) (at_ : Int) (S : Te w A m) (I : Ixs w v Q0 L) (hr : MsAt w u roots) (hc : MsAt w s caps) (a b : Int) (hok : okI L = true) (hx : (if okLN 15 roots then (0 : Int) else 1) = a) (hy : (if okLN 15 caps then (0 : Int) else 1) = b) (hxy : (a = 1 /\ b = 0) \/ (a = 0 /\ b = 1) \/ (a = 1 /\ b = 1)) :
    Calls Tryz.prog 12 #[v,u,s,.int .i64 at_] w fun e w'=>e = .returned (.bool true) /\ Below w.heap.size w w':=by
  obtain ⟨a0,c0,hv0,-⟩:=id I.es
  subst hv0
  obtain ⟨ra,rc,hu0,-⟩:=id hr
  subst hu0
  obtain ⟨ca,cc,hs0,-⟩:=id hc
  subst hs0
  have HIN:=hid (low_any A m w S)
  have HLO:=hid (fun W (h : Below w.heap.size w W)=>longI_any Q0 L _ W (I.below h))
  rw [if_pos hok] at HLO
  have HLM:=hid (fun W (h : Below w.heap.size w W)=>longN_any 15 (by decide) roots _ W (hr.below h))
  rw [hx] at HLM
  have HLS:=hid (fun W (h : Below w.heap.size w W)=>longN_any 15 (by decide) caps _ W (hc.below h))
  rw [hy] at HLS
  clear S I hok hr hc hx hy
  rcases hxy with ⟨rfl,rfl⟩ | ⟨rfl,rfl⟩ | ⟨rfl,rfl⟩
  all_goals
    go_enter Tryz.func12,Tryz.ntmps12
    go_wp2_with fail
    refine HIN.out.mono ?_
    rintro e w1 ⟨rfl,hb⟩
    have HB1:=hid hb
    clear hb
    go_wp2_with fail
    refine (HLO.out w1 HB1.out).mono ?_
    rintro e w2 ⟨rfl,hb⟩
    have HB2:=hid (HB1.out.trans (hb.mono HB1.out.size))
    clear hb
    go_wp2_with fail
    refine (HLM.out w2 HB2.out).mono ?_
    rintro e w2a ⟨rfl,rfl⟩
    go_wp2_with fail
    refine (HLS.out w2a HB2.out).mono ?_
    rintro e w2b ⟨rfl,rfl⟩
    go_wp2_with fail
    go_ret
    exact ⟨rfl,HB2.out⟩
set_option maxRecDepth 100000 in
set_option maxHeartbeats 2000000 in
theorem da_long3 (Q0 : List Raw) (L : List Ent) (roots caps : List Bm) (v u s : Value) (A : Nat -> Addr) (m : Int) (w : World) (at_ : Int) (S : Te w A m) (I : Ixs w v Q0 L) (hr : MsAt w u roots) (hc : MsAt w s caps) (hok : okI L = true) (hrk : okLN 15 roots = true) (hck : okLN 15 caps = true) (hat : at_ < 0) :
    Calls Tryz.prog 12 #[v,u,s,.int .i64 at_] w fun e w'=>e = .returned (.bool true) /\ Below w.heap.size w w':=by
  obtain ⟨a0,c0,hv0,-⟩:=id I.es
  subst hv0
  obtain ⟨ra,rc,hu0,-⟩:=id hr
  subst hu0
  obtain ⟨ca,cc,hs0,-⟩:=id hc
  subst hs0
  have HIN:=hid (low_any A m w S)
  have HLO:=hid (fun W (h : Below w.heap.size w W)=>longI_any Q0 L _ W (I.below h))
  rw [if_pos hok] at HLO
  have HLM:=hid (fun W (h : Below w.heap.size w W)=>longN_any 15 (by decide) roots _ W (hr.below h))
  rw [if_pos hrk] at HLM
  have HLS:=hid (fun W (h : Below w.heap.size w W)=>longN_any 15 (by decide) caps _ W (hc.below h))
  rw [if_pos hck] at HLS
  clear S I hok hr hc hrk hck
  go_enter Tryz.func12,Tryz.ntmps12
  go_wp2_with fail
  refine HIN.out.mono ?_
  rintro e w1 ⟨rfl,hb⟩
  have HB1:=hid hb
  clear hb
  go_wp2_with fail
  refine (HLO.out w1 HB1.out).mono ?_
  rintro e w2 ⟨rfl,hb⟩
  have HB2:=hid (HB1.out.trans (hb.mono HB1.out.size))
  clear hb
  go_wp2_with fail
  refine (HLM.out w2 HB2.out).mono ?_
  rintro e w2a ⟨rfl,rfl⟩
  go_wp2_with fail
  refine (HLS.out w2a HB2.out).mono ?_
  rintro e w2b ⟨rfl,rfl⟩
  go_wp2_with fail
  go_ret
  exact ⟨rfl,HB2.out⟩
theorem downAgain_any (Q0 : List Raw) (L : List Ent) (roots caps : List Bm) (v u s : Value) (A : Nat -> Addr) (m : Int) (w : World) (at_ : Int) (S : Te w A m) (I : Ixs w v Q0 L) (em : EmI Q0 L) (hr : MsAt w u roots) (her : Em u roots) (hc : MsAt w s caps) (hec : Em s caps) :
    Calls Tryz.prog 12 #[v,u,s,.int .i64 at_] w fun e w'=>e = .returned (.bool true) /\ Below w.heap.size w w':=by
  cases hok : okI L with
  | false=>exact da_long1 Q0 L roots caps v u s A m w at_ S I hr hc hok
  | true=>
    cases hrk : okLN 15 roots <;> cases hck : okLN 15 caps
    case true.true=>
      by_cases hat : at_ < 0
      · exact da_long3 Q0 L roots caps v u s A m w at_ S I hr hc hok hrk hck hat
      · exact da_main Q0 L roots caps v u s A m w S I em hr her hc hec hok hrk hck at_ hat
    all_goals exact da_long2 Q0 L roots caps v u s A m w at_ S I hr hc _ _ hok rfl rfl (by rw [hrk,hck]; decide)
end Ve
end Go.Proofs.YtlcffhadobhfkaaGreatDoor
