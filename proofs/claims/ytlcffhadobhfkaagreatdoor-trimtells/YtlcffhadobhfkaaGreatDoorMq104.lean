/-
  TmR TmC
-/
import Derived.Test.YtlcffhadobhfkaaGreatDoorMq6
import Derived.Test.YtlcffhadobhfkaaGreatDoorMq2
import Derived.Test.YtlcffhadobhfkaaGreatDoorMq19
import Derived.Test.YtlcffhadobhfkaaGreatDoorMq20
import Derived.Test.YtlcffhadobhfkaaGreatDoorMq22
import Derived.Test.YtlcffhadobhfkaaGreatDoorMq34
import Derived.Test.YtlcffhadobhfkaaGreatDoorMq45
import Derived.Test.YtlcffhadobhfkaaGreatDoorMq49
import Derived.Test.YtlcffhadobhfkaaGreatDoorMq1
import Derived.Test.YtlcffhadobhfkaaGreatDoorMq31
import Derived.Test.YtlcffhadobhfkaaGreatDoorMq37
import Derived.Test.YtlcffhadobhfkaaGreatDoorMq40
import Derived.Test.YtlcffhadobhfkaaGreatDoorMq3
import Derived.Test.YtlcffhadobhfkaaGreatDoorMq5
import Derived.Test.YtlcffhadobhfkaaGreatDoorMq9
import Derived.Test.YtlcffhadobhfkaaGreatDoorMq11
import Derived.Test.YtlcffhadobhfkaaGreatDoorMq18
import Derived.Test.YtlcffhadobhfkaaGreatDoorMq23
import Derived.Test.YtlcffhadobhfkaaGreatDoorMq105
namespace Go.Proofs.YtlcffhadobhfkaaGreatDoor
open Go.RowKit Go.Maps
namespace Ve
theorem tr_goes {g : List Bm -> Bool} {l : List Bm} {i : Nat} (hi : i < l.length) (h : g (l.eraseIdx i) = true) : trm g ((l.eraseIdx i).length - i) (l.eraseIdx i) i = trm g (l.length - i) l i:=by
  rw [show l.length - i = l.length - i - 1 + 1 by omega,trm_goes hi h,List.length_eraseIdx_of_lt hi]
  congr 1; omega
theorem tr_stays {g : List Bm -> Bool} {l : List Bm} {i : Nat} (hi : i < l.length) (h : g (l.eraseIdx i) = false) : trm g (l.length - (i + 1)) l (i + 1) = trm g (l.length - i) l i:=by
  rw [show l.length - i = l.length - (i + 1) + 1 by omega,trm_stays hi h]
open Classical in
noncomputable def trF (Q : List Raw) (L : List Ent) (sel : List Bm) : Nat × Option Nat:=if (chkG Q L sel).1 = 0 then (if bX Q L sel = sel then (0,none) else (3,none)) else chkG Q L sel
open Classical in
noncomputable def trR (Q : List Raw) (L : List Ent) (sel : List Bm) : List Bm:=if (trF Q L sel).1 = 0 then trX Q L sel else []
theorem trF_bad {Q : List Raw} {L : List Ent} {sel : List Bm} (h : ¬ (chkG Q L sel).1 = 0) : trF Q L sel = chkG Q L sel:=if_neg h
theorem trF_other {Q : List Raw} {L : List Ent} {sel : List Bm} (h : (chkG Q L sel).1 = 0) (h2 : ¬ bX Q L sel = sel) : trF Q L sel = (3,none):=by unfold trF; rw [if_pos h,if_neg h2]
theorem trF_good {Q : List Raw} {L : List Ent} {sel : List Bm} (h : (chkG Q L sel).1 = 0) (h2 : bX Q L sel = sel) : trF Q L sel = (0,none):=by unfold trF; rw [if_pos h,if_pos h2]
theorem trR_bad {Q : List Raw} {L : List Ent} {sel : List Bm} (h : ¬ (chkG Q L sel).1 = 0) : trR Q L sel = []:=by unfold trR; rw [trF_bad h,if_neg h]
theorem trR_other {Q : List Raw} {L : List Ent} {sel : List Bm} (h : (chkG Q L sel).1 = 0) (h2 : ¬ bX Q L sel = sel) : trR Q L sel = []:=by unfold trR; rw [trF_other h h2,if_neg (by decide)]
theorem trR_good {Q : List Raw} {L : List Ent} {sel : List Bm} (h : (chkG Q L sel).1 = 0) (h2 : bX Q L sel = sel) : trR Q L sel = trX Q L sel:=by unfold trR; rw [trF_good h h2,if_pos rfl]
theorem trm_len {g : List Bm -> Bool} : ∀ (n : Nat) (l : List Bm) (i : Nat),(trm g n l i).length <= l.length
  | 0,l,i=>Nat.le_refl _
  | n + 1, l, i => by
    unfold trm
    split
    · split
      · exact Nat.le_trans (trm_len n _ i) (List.eraseIdx_sublist _ _).length_le
      · exact trm_len n l (i + 1)
    · exact Nat.le_refl _
theorem trR_len (Q : List Raw) (L : List Ent) (sel : List Bm) : (trR Q L sel).length <= sel.length:=by
  unfold trR
  split
  · exact trm_len _ _ _
  · simp
theorem trF_same {Q Q' : List Raw} {L : List Ent} (h : Q.map (fun r=>r.1) = Q'.map (fun r=>r.1)) (sel : List Bm) : trF Q L sel = trF Q' L sel:=by unfold trF; rw [chkG_same h,bX_same h]
theorem gB_same {Q Q' : List Raw} {L : List Ent} (h : Q.map (fun r=>r.1) = Q'.map (fun r=>r.1)) (sel : List Bm) : gB Q L sel = gB Q' L sel:=by
  funext R
  unfold gB
  rw [bX_same h]
theorem trR_same {Q Q' : List Raw} {L : List Ent} (h : Q.map (fun r=>r.1) = Q'.map (fun r=>r.1)) (sel : List Bm) : trR Q L sel = trR Q' L sel:=by unfold trR trX; rw [trF_same h,gB_same h]
theorem smF_same {Q Q' : List Raw} {L : List Ent} (h : Q.map (fun r=>r.1) = Q'.map (fun r=>r.1)) (a b : List Bm) : smF Q L a b = smF Q' L a b:=by unfold smF; rw [chkG_same h,rF_same h]
theorem smB_same {Q Q' : List Raw} {L : List Ent} (h : Q.map (fun r=>r.1) = Q'.map (fun r=>r.1)) (a b : List Bm) : smB Q L a b = smB Q' L a b:=by unfold smB; rw [smF_same h,bX_same h,bX_same h]
set_option maxRecDepth 100000 in
set_option maxHeartbeats 2000000 in
theorem roots_bad (Q : List Raw) (L : List Ent) (sel : List Bm) (v sv : Value) (A : Nat -> Addr) (m : Int) (w : World) (hn : L.length <= 1000) (hsn : sel.length <= 1000000) (sh : ∀ e,e ∈ L -> ShE e) (S : Te w A m) (I : Ixs w v Q L) (hs : MsAt w sv sel) (h0 : ¬ (chkG Q L sel).1 = 0) :
    Calls Tryz.prog 56 #[v,sv] w fun e w'=>∃ T a,e = .returned (.tuple #[.slice none 0 0,.iface T (.pointer (some a))]) /\ ErrAt w' A (.iface T (.pointer (some a))) (chkG Q L sel).1 (chkG Q L sel).2 /\ Below w.heap.size w w':=by
  obtain ⟨sa,sc,hs0,-⟩:=id hs
  subst hs0
  have HBU:=hid (bl_bad Q L sel v _ sa sel.length sc A m w hn hsn sh S I hs h0)
  obtain ⟨a0,c0,hv0,-⟩:=id I.es
  subst hv0
  clear S I hs sh h0
  generalize chkG Q L sel = R at *
  go_enter Tryz.func56,Tryz.ntmps56
  go_wp2_with fail
  refine HBU.out.mono ?_
  rintro e w1 ⟨T,a,rfl,he,hb⟩
  have HE:=hid he
  have HB:=hid hb
  clear he hb HBU
  go_wp2_with fail
  go_ret2
  exact ⟨_,_,rfl,HE.out,HB.out⟩
set_option maxRecDepth 100000 in
set_option maxHeartbeats 2000000 in
theorem roots_other (Q : List Raw) (L : List Ent) (sel : List Bm) (v sv : Value) (A : Nat -> Addr) (m : Int) (w : World) (hn : L.length <= 1000) (hsn : sel.length <= 1000000) (sh : ∀ e,e ∈ L -> ShE e) (S : Te w A m) (I : Ixs w v Q L) (hs : MsAt w sv sel) (h0 : (chkG Q L sel).1 = 0) (h1 : ¬ bX Q L sel = sel) :
    Calls Tryz.prog 56 #[v,sv] w fun e w'=>e = .returned (.tuple #[.slice none 0 0,errA A 3]) /\ Below w.heap.size w w':=by
  obtain ⟨sa,sc,hs0,-⟩:=id hs
  subst hs0
  have HBU:=hid (bl_good Q L sel sel v _ _ A m w hn hsn sh S I hs hs h0)
  rw [blB_good h0,decide_eq_false h1] at HBU
  have HS:=hid S
  obtain ⟨a0,c0,hv0,-⟩:=id I.es
  subst hv0
  clear S I hs sh h0 h1
  rw [errA_if A (show (3 : Nat) ≠ 0 by decide)]
  go_enter Tryz.func56,Tryz.ntmps56
  go_wp2_with fail
  refine HBU.out.mono ?_
  rintro e w1 ⟨rfl,hb⟩
  have HB:=hid hb
  have g2:=(HS.out.below hb).sen.g2
  clear hb HBU
  go_wp2_with fail
  go_region_with fail
  all_goals
    go_wp2_with fail
    go_ret2
    exact ⟨rfl,below_drawn_of HB.out _⟩
theorem roots_all (Q : List Raw) (L : List Ent) (sel : List Bm) (v sv : Value) (A : Nat -> Addr) (m : Int) (w : World) (hn : L.length <= 1000) (hsn : sel.length <= 1000000) (sh : ∀ e,e ∈ L -> ShE e) (S : Te w A m) (I : Ixs w v Q L) (hs : MsAt w sv sel) (hem : Em sv sel) :
    Calls Tryz.prog 56 #[v,sv] w fun e w'=>∃ a c x,e = .returned (.tuple #[.slice a (trR Q L sel).length c,x]) /\ Mr w w' (.slice a (trR Q L sel).length c) (trR Q L sel) /\ ErrAt w' A x (trF Q L sel).1 (trF Q L sel).2:=by
  by_cases h0 : (chkG Q L sel).1 = 0
  · by_cases h1 : bX Q L sel = sel
    · refine (roots_good Q L sel v sv A m w hn hsn sh S I hs hem h0 h1).mono ?_
      rintro e w' ⟨a,c,rfl,hm⟩
      rw [trR_good h0 h1,trF_good h0 h1]
      exact ⟨a,c,_,rfl,hm,rfl⟩
    · refine (roots_other Q L sel v sv A m w hn hsn sh S I hs h0 h1).mono ?_
      rintro e w' ⟨rfl,hb⟩
      rw [trR_other h0 h1,trF_other h0 h1]
      exact ⟨_,_,_,rfl,mr_nil0 hb,rfl⟩
  · refine (roots_bad Q L sel v sv A m w hn hsn sh S I hs h0).mono ?_
    rintro e w' ⟨T,a,rfl,he,hb⟩
    rw [trR_bad h0,trF_bad h0]
    exact ⟨_,_,_,rfl,mr_nil0 hb,he⟩
end Ve
end Go.Proofs.YtlcffhadobhfkaaGreatDoor
