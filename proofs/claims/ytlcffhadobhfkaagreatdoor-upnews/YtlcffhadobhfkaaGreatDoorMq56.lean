/-
  MvF MlP MvI MvG MvH
-/
import Derived.Test.YtlcffhadobhfkaaGreatDoorMq3
import Derived.Test.YtlcffhadobhfkaaGreatDoorMq5
import Derived.Test.YtlcffhadobhfkaaGreatDoorMq6
import Derived.Test.YtlcffhadobhfkaaGreatDoorMq9
import Derived.Test.YtlcffhadobhfkaaGreatDoorMq11
import Derived.Test.YtlcffhadobhfkaaGreatDoorMq2
import Derived.Test.YtlcffhadobhfkaaGreatDoorMq18
import Derived.Test.YtlcffhadobhfkaaGreatDoorMq19
import Derived.Test.YtlcffhadobhfkaaGreatDoorMq20
import Derived.Test.YtlcffhadobhfkaaGreatDoorMq23
import Derived.Test.YtlcffhadobhfkaaGreatDoorMq22
import Derived.Test.YtlcffhadobhfkaaGreatDoorMq36
import Derived.Test.YtlcffhadobhfkaaGreatDoorMq45
import Derived.Test.YtlcffhadobhfkaaGreatDoorMq34
import Derived.Test.YtlcffhadobhfkaaGreatDoorMq16
import Derived.Test.YtlcffhadobhfkaaGreatDoorMq33
import Derived.Test.YtlcffhadobhfkaaGreatDoorMq55
namespace Go.Proofs.YtlcffhadobhfkaaGreatDoor
open Go.RowKit
namespace Ve
theorem zero_len (n : Nat) : (Builtin.zeroCells (Value.agg #[.string ⟨#[]⟩,.string ⟨#[]⟩]).cells n).size = n * 2:=by
  simp [Builtin.zeroCells,Value.cells]
set_option maxHeartbeats 2000000 in
theorem grow_zero (w : World) : Calls Tryz.prog 130 #[.slice none 0 0,.int .i64 0] w fun e w'=>e = .returned (.slice none 0 0) /\ Below w.heap.size w w':=by
  go_enter Tryz.func130,Tryz.ntmps130
  go_wp2_with fail
  go_ret
  exact ⟨rfl,Below.refl _ _⟩
set_option maxRecDepth 100000 in
set_option maxHeartbeats 4000000 in
theorem grow_some (n : Nat) (w : World) (h0 : 0 < n) (hn : n <= 1000000) : Calls Tryz.prog 130 #[.slice none 0 0,.int .i64 (n : Int)] w fun e w'=>∃ v,e = .returned v /\ w'.ownsRow w.heap.size 25 2 v 0 [] /\ Below w.heap.size w w':=by
  obtain ⟨i0,hi,hz0,hz1,hz2⟩:=info_parts infoMod
  have HA:=hid (fun (W : World) ty=>Lib.run_append_nil_zeros (P:=Tryz.prog) W 23 3 ty 25 i0 (.agg #[.string ⟨#[]⟩,.string ⟨#[]⟩]) .i64 .i64 Tryz.underlying23 Tryz.underlying3 hi hz0 n h0 (by rw [hz1]; omega) (by omega) (by rw [hz2]; omega))
  have hn0 : ¬ (n : Int) < 0:=by omega
  have hn1 : (0 : Int) < (n : Int):=by omega
  go_enter Tryz.func130,Tryz.ntmps130
  go_wp2_with (at_builtin; refine Lib.wpList_append_run _ rfl _ _ _ _ rfl _ _ rfl rfl _ _ (HA.out _ _) ?_)
  go_ret
  refine ⟨_,rfl,⟨by simp,Or.inr ⟨w.heap.size,grownCap w n 0 25,_,rfl,Nat.le_refl _,heap_new w _,Nat.zero_le _,grownCap_le_maxLen w n 0 25 (by unfold maxLen; omega),?_,by simp⟩⟩,below_drawn_of ((Below.refl w.heap.size w).alloc (Nat.le_refl _) _) 1⟩
  have h1:=zero_len n
  have h2:=zero_len (grownCap w n 0 25 - n)
  have h3:=grownCap_ge w n 0 25
  simp only [Value.cells] at h1 h2
  rw [Array.size_append,h1,h2]
  omega
set_option maxRecDepth 100000 in
set_option maxHeartbeats 8000000 in
theorem cat_any (A B : List Bm) (va vb : Value) (lb : Nat) (w : World) (c0 : w.cell? ⟨lb, 0, none⟩ = some va) (c1 : w.cell? ⟨lb, 1, none⟩ = some vb) (hA : MsAt w va A) (hB : MsAt w vb B) (eA : Em va A) (eB : Em vb B) (lA : A.length ≤ 500) (lB : B.length ≤ 500) :
    Calls Tryz.prog 87 #[.slice (some ⟨lb,0,none⟩) 2 2] w fun e w'=>∃ v,e = .returned v /\ w'.ownsRow w.heap.size 25 2 v (A ++ B).length (flatM (A ++ B)) /\ Below w.heap.size w w':=by
  obtain ⟨aa,ac,ea⟩ : ∃ a c,va = .slice a A.length c:=by obtain ⟨a,c,e,_⟩:=hA; exact ⟨a,c,e⟩
  obtain ⟨ba,bc,eb⟩ : ∃ a c,vb = .slice a B.length c:=by obtain ⟨a,c,e,_⟩:=hB; exact ⟨a,c,e⟩
  subst ea eb
  have HA:=hid hA
  have HB:=hid hB
  have HEA:=hid eA
  have HEB:=hid eB
  clear hA hB eA eB
  go_enter Tryz.func87,Tryz.ntmps87
  go_wp2_with fail
  go_loopw [3,11] (fun s i wr=>Hid (wr = w) /\ ((s = .int .i64 0 /\ i = .int .i64 0) \/ (s = .int .i64 (A.length : Int) /\ i = .int .i64 1) \/ (s = .int .i64 ((A.length + B.length : Nat) : Int) /\ i = .int .i64 2))) (fun _ i _=>2 - (intOf i).toNat)
  case atStart=>exact ⟨hid rfl,Or.inl ⟨rfl,rfl⟩⟩
  case round=>
    obtain ⟨HWR,⟨rfl,rfl⟩ | ⟨rfl,rfl⟩ | ⟨rfl,rfl⟩⟩:=hrel
    all_goals obtain rfl:=HWR.out
    all_goals clear HWR
    · have q1 : ¬ (A.length : Int) < 0:=by omega
      go_wp2_with fail
      go_roundw
      case rel=>exact ⟨hid trivial,Or.inr (Or.inl ⟨rfl,rfl⟩)⟩
      case measure=>decide
    · have q1 : ¬ (A.length : Int) + (B.length : Int) < 0:=by omega
      go_wp2_with fail
      go_roundw
      case rel=>exact ⟨hid trivial,Or.inr (Or.inr ⟨by go_num,rfl⟩)⟩
      case measure=>decide
    · have HG:=hid (show Calls Tryz.prog 130 #[.slice none 0 0,.int .i64 ((A.length + B.length : Nat) : Int)] wr fun e w'=>∃ v,e = .returned v /\ w'.ownsRow wr.heap.size 25 2 v 0 [] /\ Below wr.heap.size wr w' by
        by_cases h0 : A.length + B.length = 0
        · rw [h0]
          exact (grow_zero wr).mono fun _ _ h=>⟨_,h.1,World.ownsRow_nil _ _ _ _,h.2⟩
        · exact grow_some (A.length + B.length) wr (by omega) (by omega))
      go_wp2_with fail
      refine HG.out.mono ?_
      rintro e w1 ⟨v0,rfl,hown,hb⟩
      have HO:=hid hown
      have HBL:=hid hb
      obtain ⟨oa,on,oc,hv0⟩:=own_sl hown
      subst hv0
      clear hown hb HG
      go_wp2_with fail
      go_loopw [6,27] (fun v i W=>∃ (k : Nat) (X : List Bm),i = .int .i64 (k : Int) /\ ((k = 0 /\ X = []) \/ (k = 1 /\ X = A) \/ (k = 2 /\ X = A ++ B)) /\ Hid (W.ownsRow wr.heap.size 25 2 v X.length (flatM X)) /\ Hid (Below wr.heap.size wr W)) (fun _ i _=>2 - (intOf i).toNat)
      case atStart=>exact ⟨0,[],rfl,Or.inl ⟨rfl,rfl⟩,HO,HBL⟩
      case round=>
        obtain ⟨k,X,rfl,hk,HOW,HBW⟩:=hrel
        have HSZ:=hid HBW.out.size
        rcases hk with ⟨rfl,rfl⟩ | ⟨rfl,rfl⟩ | ⟨rfl,rfl⟩
        · have d0:=cell_below HBW.out c0
          obtain ⟨v2,W2,hrun,ho2,hg2⟩:=both_run [] A _ _ wr _ HSZ.out (by simp) (by omega) HOW.out (HA.out.below HBW.out) HEA.out
          have HRUN:=hid hrun
          have HO2:=hid (show W2.ownsRow _ 25 2 v2 A.length (flatM A) from ho2)
          have HB2:=hid (HBW.out.grown hg2 HBW.out.size (fun k hk=>(HOW.out.lt k hk).1))
          clear hrun ho2 hg2
          go_wp2_with (at_builtin; refine Lib.wpList_append_run _ rfl _ _ _ _ rfl _ _ rfl rfl _ _ HRUN.out ?_)
          go_roundw
          case rel=>exact ⟨1,A,rfl,Or.inr (Or.inl ⟨rfl,rfl⟩),HO2,HB2⟩
          case measure=>decide
        · have d1:=cell_below HBW.out c1
          obtain ⟨v2,W2,hrun,ho2,hg2⟩:=both_run X B _ _ wr _ HSZ.out (by omega) (by omega) HOW.out (HB.out.below HBW.out) HEB.out
          have HRUN:=hid hrun
          have HO2:=hid ho2
          have HB2:=hid (HBW.out.grown hg2 HBW.out.size (fun k hk=>(HOW.out.lt k hk).1))
          clear hrun ho2 hg2
          go_wp2_with (at_builtin; refine Lib.wpList_append_run _ rfl _ _ _ _ rfl _ _ rfl rfl _ _ HRUN.out ?_)
          go_roundw
          case rel=>exact ⟨2,X ++ B,rfl,Or.inr (Or.inr ⟨rfl,rfl⟩),HO2,HB2⟩
          case measure=>decide
        · go_wp2_with fail
          go_ret
          exact ⟨_,rfl,HOW.out,HBW.out⟩
open Go.Maps
theorem hasV_iff {B : List Bm} {m : Bm} : hasV B m = true ↔ ∃ x,atP B m.1 = some x /\ lessB (vb x) (vb m) = false:=by
  unfold hasV
  cases h : atP B m.1 with
  | none=>simp
  | some x=>simp
theorem atP_mem {B : List Bm} {p : ByteArray} {x : Bm} (h : atP B p = some x) : x ∈ B /\ x.1 = p:=by
  unfold atP at h
  exact ⟨List.mem_of_find?_eq_some h,by have:=List.find?_some h; simpa using this⟩
theorem less_le {a b : Bm} (ha : mErr a = 0) (hb : mErr b = 0) : lessB (vb a) (vb b) = false ↔ ordV (vb b) (vb a) <= 0:=by
  rw [less_right (mErr_zero ha).2 (mErr_zero hb).2]
  simp only [decide_eq_false_iff_not]
  rw [ordV_swap (vb b) (vb a)]
  omega
theorem hasV_up {sel : List Bm} {m r : Bm} (hr : ∀ x,x ∈ sel -> mErr x = 0) (hm0 : mErr m = 0) (hr0 : mErr r = 0) (hp : r.1 = m.1) (ho : ordV (vb m) (vb r) <= 0) (h : hasV sel r = true) : hasV sel m = true:=by
  obtain ⟨s,h1,h2⟩:=hasV_iff.1 h
  have hs:=hr s (atP_mem h1).1
  rw [hp] at h1
  exact hasV_iff.2 ⟨s,h1,(less_le hs hm0).2 (ordV_le_trans (mErr_zero hm0).2 (mErr_zero hr0).2 (mErr_zero hs).2 ho ((less_le hs hr0).1 h2))⟩
def risB2 : List Bm -> Bool
  | []=>true
  | [_]=>true
  | a :: b :: r=>lt a.1 b.1 && risB2 (b :: r)
theorem risB2_iff : ∀ {L : List Bm},risB2 L = true ↔ rising L
  | []=>⟨fun _=>List.Pairwise.nil,fun _=>rfl⟩
  | [a]=>⟨fun _=>List.pairwise_singleton _ _,fun _=>rfl⟩
  | a :: b :: r => by
    unfold risB2
    rw [Bool.and_eq_true,risB2_iff]
    constructor
    · rintro ⟨h1,h2⟩
      refine List.pairwise_cons.2 ⟨fun c hc=>?_,h2⟩
      rcases List.mem_cons.1 hc with rfl | hc
      · exact h1
      · exact lt_trans h1 ((List.pairwise_cons.1 h2).1 c hc)
    · intro h
      obtain ⟨h1,h2⟩:=List.pairwise_cons.1 h
      exact ⟨h1 b (by simp),h2⟩
theorem risB2_all : ∀ {L : List Bm},(∀ j (h : j + 1 < L.length),lt (L[j]'(by omega)).1 L[j + 1].1 = true) -> risB2 L = true
  | [],_=>rfl
  | [_],_=>rfl
  | a :: b :: r,h=>by
    unfold risB2
    rw [Bool.and_eq_true]
    exact ⟨h 0 (by simp),risB2_all (L:=b :: r) fun j hj=>h (j + 1) (by simpa using hj)⟩
theorem risB2_not {L : List Bm} {j : Nat} (h : j + 1 < L.length) (hn : lt (L[j]'(by omega)).1 L[j + 1].1 = false) : risB2 L = false:=by
  cases hb : risB2 L
  · rfl
  · have:=List.pairwise_iff_getElem.1 (risB2_iff.1 hb) j (j + 1) (by omega) h (by omega)
    rw [hn] at this; cases this
theorem insM_nil (a : Option Addr) (c : Nat) (W : World) : Calls Tryz.prog 192 #[.slice a 0 c,.int .i64 0,.int .i64 0,.func (.func 119) #[] #[]] W fun e w'=>e = .returned (.tuple #[]) /\ w' = W:=by
  go_enter Tryz.func192,Tryz.ntmps192
  go_wp2_with fail
  go_loop [8] (fun i=>i = .int .i64 1) (fun _=>0)
  case atStart=>rfl
  case round=>
    obtain rfl:=hrel
    go_wp2_with fail
    go_end0
    exact ⟨rfl,rfl⟩
set_option maxRecDepth 100000 in
set_option maxHeartbeats 2000000 in
theorem pdqM_nil (a : Option Addr) (c : Nat) (n : Int) (W : World) : Calls Tryz.prog 157 #[.slice a 0 c,.int .i64 0,.int .i64 0,.int .i64 n,.func (.func 119) #[] #[]] W fun e w'=>e = .returned (.tuple #[]) /\ w' = W:=by
  have HI:=hid (insM_nil a c W)
  go_enter Tryz.func157,Tryz.ntmps157
  go_wp2_with fail
  go_loop [1,2,3,10,11] (fun a b _ _ _=>a = .int .i64 0 /\ b = .int .i64 0) (fun _ _ _ _ _=>0)
  case atStart=>exact ⟨rfl,rfl⟩
  case round=>
    obtain ⟨rfl,rfl⟩:=hrel
    go_wp2_with fail
    refine HI.out.mono ?_
    rintro e w' ⟨rfl,rfl⟩
    go_wp2_with fail
    first | (go_end0; exact ⟨rfl,rfl⟩) | (go_ret; exact ⟨rfl,rfl⟩) | (refine bodyPost_ret (v:=.tuple #[]) (by simp [results,Tryz.results157]) rfl ⟨rfl,rfl⟩)
set_option maxHeartbeats 1000000 in
theorem sortM_nil (a : Option Addr) (c : Nat) (W : World) : Calls Tryz.prog 118 #[.slice a 0 c,.func (.func 119) #[] #[]] W fun e w'=>e = .returned (.tuple #[]) /\ Below W.heap.size W w':=by
  have HLN:=hid (show Calls Tryz.prog 158 #[.int .u64 0] W fun e w'=>e = .returned (.int .i64 (Lib.bitLen 0 : Nat)) /\ w' = W from by
    have h:=Any.bits_Len (SlLaysF0.n15.bits (P:=Tryz.prog) (ρ:=Tryz.sortMods_ren) { Tryz.sortMods with }) 0 W (by omega) (by omega)
    exact h)
  have HP:=hid (fun n=>pdqM_nil a c n W)
  go_enter Tryz.func118,Tryz.ntmps118
  go_wp2_with fail
  refine HLN.out.mono ?_
  rintro e w' ⟨rfl,rfl⟩
  go_wp2_with fail
  refine (HP.out _).mono ?_
  rintro e w' ⟨rfl,rfl⟩
  go_wp2_with fail
  go_end0
  exact ⟨rfl,Below.refl _ _⟩
set_option maxHeartbeats 1000000 in
theorem delM_nil (a : Option Addr) (c : Nat) (W : World) : Calls Tryz.prog 122 #[.slice a 0 c,.func (.func 123) #[] #[]] W fun e w'=>e = .returned (.slice a 0 c) /\ Below W.heap.size W w':=by
  have HI:=hid (idxM_none 123 #[] a c W)
  go_enter Tryz.func122,Tryz.ntmps122
  go_wp2_with fail
  refine HI.out.mono ?_
  rintro e w1 ⟨rfl,hb⟩
  have HB:=hid hb
  clear hb
  go_wp2_with fail
  go_ret
  exact ⟨rfl,HB.out⟩
set_option maxHeartbeats 2000000 in
theorem right_any (X Y : List Bm) (va vb : Value) (lb : Nat) (A : Nat -> Addr) (ml : Int) (w : World) (c0 : w.cell? ⟨lb,0,none⟩ = some va) (c1 : w.cell? ⟨lb,1,none⟩ = some vb) (hA : MsAt w va X) (hB : MsAt w vb Y) (eA : Em va X) (eB : Em vb Y) (lA : X.length <= 500) (lB : Y.length <= 500)
    (hz : ∀ r,r ∈ X ++ Y -> r.1.size < 999999 /\ r.2.size < 999999) (S : Te w A ml) :
    Calls Tryz.prog 75 #[.slice (some ⟨lb,0,none⟩) 2 2] w fun e w'=>∃ v,e = .returned v /\ Mr w w' v (rightL (X ++ Y)):=by
  have HC:=hid (cat_any X Y va vb lb w c0 c1 hA hB eA eB lA lB)
  have HS:=hid S
  have HZ:=hid hz
  have hl : (X ++ Y).length <= 1000:=by simp; omega
  generalize X ++ Y = D at *
  clear hA hB eA eB S hz c0 c1
  go_enter Tryz.func75,Tryz.ntmps75
  go_wp2_with fail
  refine HC.out.mono ?_
  rintro e w1 ⟨v,rfl,hown,hb⟩
  obtain ⟨_,a,cap,rfl,hcap,hk⟩:=mr_own hown hb
  have HBL:=hid hb
  clear hown hb
  rcases hk with ⟨rfl,h0⟩ | ⟨g,rfl,hM⟩
  · have HD:=hid (delM_nil a cap w1)
    go_wp2_with fail
    refine HD.out.mono ?_
    rintro e w2 ⟨rfl,hb⟩
    have HB2:=hid (HBL.out.trans (hb.mono HBL.out.size))
    clear hb
    go_wp2_with fail
    go_ret
    exact ⟨_,rfl,HB2.out,a,cap,rfl,Nat.zero_le _,Or.inl ⟨rfl,h0⟩⟩
  · have HD:=hid (del_mw w w1 g cap D A ml HS.out (by omega) hcap HZ.out hM)
    have HRL:=hid (show (rightL D).length <= cap from Nat.le_trans (List.length_filter_le _ _) hcap)
    clear hM
    go_wp2_with fail
    refine HD.out.mono ?_
    rintro e w2 ⟨rfl,hm⟩
    have HM2:=hid hm
    clear hm
    go_wp2_with fail
    go_ret
    exact ⟨_,rfl,HM2.out.bl,_,cap,rfl,HRL.out,Or.inr ⟨g,rfl,HM2.out⟩⟩
theorem Jn.perm {D D' E : List Bm} (h : Jn D' E) (hp : D'.Perm D) : Jn D E:=
  ⟨h.ri,fun e he=>⟨hp.mem_iff.1 (h.sub e he).1,(h.sub e he).2⟩,fun x hx=>h.top x (hp.mem_iff.2 hx)⟩
theorem Jn.right {D E : List Bm} (h : Jn (rightL D) E) : Jn D E:=
  ⟨h.ri,fun e he=>⟨(rightL_mem.1 (h.sub e he).1).1,(h.sub e he).2⟩,fun x hx hr=>h.top x (rightL_mem.2 ⟨hx,hr⟩) hr⟩
set_option maxHeartbeats 2000000 in
theorem great_any (D : List Bm) (v : Value) (A : Nat -> Addr) (ml : Int) (w0 w : World) (hM : Mr w0 w v D) (h12 : D.length <= 1000000) (hr : ∀ r,r ∈ D -> Rt r) (S : Te w0 A ml) :
    Calls Tryz.prog 74 #[v] w fun e w'=>∃ u E,e = .returned u /\ E.length <= D.length /\ Jn D E /\ Mr w0 w' u E:=by
  obtain ⟨hb,a,cap,rfl,hcap,hk⟩:=hM
  by_cases hD : D = []
  · subst hD
    have HS:=hid (sortM_nil a cap w)
    have HC:=hid (fun W=>compactM_nil a cap W)
    have h0 : a = none -> cap = 0:=by
      rcases hk with ⟨_,h0⟩ | ⟨g,rfl,_⟩
      · exact h0
      · intro h; cases h
    have HBL:=hid hb
    clear hk hb S
    go_enter Tryz.func74,Tryz.ntmps74
    go_wp2_with fail
    refine HS.out.mono ?_
    rintro e w1 ⟨rfl,hb⟩
    have HB1:=hid (HBL.out.trans (hb.mono HBL.out.size))
    clear hb
    go_wp2_with fail
    refine (HC.out _).mono ?_
    rintro e w2 ⟨rfl,hb⟩
    have HB2:=hid (HB1.out.trans (hb.mono HB1.out.size))
    clear hb
    go_wp2_with fail
    go_ret
    exact ⟨_,[],rfl,Nat.le_refl _,Jn.nil,HB2.out,a,cap,rfl,Nat.zero_le _,Or.inl ⟨rfl,h0⟩⟩
  · obtain ⟨g,rfl,hM⟩ : ∃ g,a = some ⟨g,0,none⟩ /\ Mw w0 w g D:=by
      rcases hk with ⟨h,_⟩ | h
      · exact absurd h hD
      · exact h
    have HS:=hid (sort_mw w0 w g cap D hD h12 A ml S hr hM)
    have HRT:=hid hr
    have HD:=hid hD
    clear hk hb S hM hr hD
    go_enter Tryz.func74,Tryz.ntmps74
    go_wp2_with fail
    refine HS.out.mono ?_
    rintro e w1 ⟨rfl,D1,hp,hs,hM1⟩
    have hl : D1.length = D.length:=hp.length_eq
    have HC:=hid (compact_mw w0 w1 g cap D1 (fun e=>HD.out (by rw [e] at hl; exact List.length_eq_zero_iff.1 hl.symm)) (by omega) (by omega) (fun r h=>HRT.out r (hp.mem_iff.1 h)) hs hM1)
    have HP:=hid hp
    rw [hl] at HC
    clear hp hs hM1 HS
    go_wp2_with fail
    refine HC.out.mono ?_
    rintro e w2 ⟨E,rfl,hEl,hj,hM2⟩
    have HJ:=hid (hj.perm HP.out)
    have HM2:=hid hM2
    clear hj hM2
    go_wp2_with fail
    go_ret
    exact ⟨_,E,rfl,hEl,HJ.out,HM2.out.bl,_,cap,rfl,by omega,Or.inr ⟨g,rfl,HM2.out⟩⟩
set_option maxHeartbeats 2000000 in
theorem join_mods (X Y : List Bm) (va vb : Value) (A : Nat -> Addr) (ml : Int) (w : World) (hA : MsAt w va X) (hB : MsAt w vb Y) (eA : Em va X) (eB : Em vb Y) (lA : X.length <= 500) (lB : Y.length <= 500)
    (hz : ∀ r,r ∈ X ++ Y -> r.1.size < 999999 /\ r.2.size < 999999) (S : Te w A ml) :
    Calls Tryz.prog 30 #[va,vb] w fun e w'=>∃ v E,e = .returned v /\ E.length <= (X ++ Y).length /\ Jn (X ++ Y) E /\ Mr w w' v E:=by
  obtain ⟨aa,an,ac,ea⟩:=hA.slice
  obtain ⟨ba,bn,bc,eb⟩:=hB.slice
  subst ea eb
  have HB0:=hid ((Below.refl w.heap.size w).alloc (Nat.le_refl _) (.cells #[.slice aa an ac,.slice ba bn bc] 23))
  have HR:=hid (right_any X Y _ _ w.heap.size A ml (w.alloc (.cells #[.slice aa an ac,.slice ba bn bc] 23)) (by simp) (by simp) (hA.below HB0.out) (hB.below HB0.out) eA eB lA lB hz (S.below HB0.out))
  have HS:=hid S
  have HRT:=hid (show ∀ r,r ∈ rightL (X ++ Y) -> Rt r from fun r h=>⟨(rightL_mem.1 h).2,(hz r (rightL_mem.1 h).1).1,(hz r (rightL_mem.1 h).1).2⟩)
  have hl : (X ++ Y).length <= 1000:=by simp; omega
  have HRL:=hid (show (rightL (X ++ Y)).length <= (X ++ Y).length from List.length_filter_le _ _)
  generalize X ++ Y = D at *
  clear hA hB eA eB S hz
  go_enter Tryz.func30,Tryz.ntmps30
  go_wp2_with fail
  refine HR.out.mono ?_
  rintro e w1 ⟨v,rfl,hm⟩
  have HG:=hid (great_any (rightL D) v A ml _ w1 hm (by have:=HRL.out; omega) HRT.out (HS.out.below HB0.out))
  obtain ⟨va,vc,hv⟩:=hm.sl
  subst hv
  clear hm HR
  go_wp2_with fail
  refine HG.out.mono ?_
  rintro e w2 ⟨u,E,rfl,hl2,hj,hM⟩
  have HJ:=hid hj.right
  have HM:=hid (hM.base HB0.out)
  have HEL:=hid (Nat.le_trans hl2 HRL.out)
  obtain ⟨ua,uc,hu⟩:=hM.sl
  subst hu
  clear hj hM hl2
  go_wp2_with fail
  go_ret
  exact ⟨_,E,rfl,HEL.out,HJ.out,HM.out⟩
theorem goM_sub {w : World} {v : Value} {Q : List Raw} {L : List Ent} (I : Ixs w v Q L) {T : By} {m : Bm} (h : m ∈ goM T Q) : m ∈ univ L:=by
  rw [<- univ_eq I]
  unfold goM goQ at h
  obtain ⟨r,hr,e⟩:=List.mem_map.1 h
  exact List.mem_map.2 ⟨r,(List.mem_filter.1 hr).1,e⟩
theorem univ_szJ {L : List Ent} (sh : ∀ e,e ∈ L -> ShE e) {m : Bm} (h : m ∈ univ L) : m.1.size < 999999 /\ m.2.size < 999999:=by
  obtain ⟨e,he,rfl⟩:=List.mem_map.1 h
  exact ⟨(sh e he).p,(sh e he).v⟩
theorem em_none : Em (.slice none 0 0) []:=fun a c e _=>by
  injection e with e1 e2 e3
  subst e1 e3
  exact Or.inl rfl
theorem ms_none (w : World) : MsAt w (.slice none 0 0) []:=⟨none,0,rfl,Nat.le_refl _,fun h=>absurd rfl h⟩
set_option maxRecDepth 100000 in
set_option maxHeartbeats 2000000 in
theorem build_bad (Q : List Raw) (L : List Ent) (roots : List Bm) (v rv : Value) (A : Nat -> Addr) (m : Int) (w : World) (hn : L.length <= 1000) (hrn : roots.length <= 1000000) (sh : ∀ e,e ∈ L -> ShE e) (S : Te w A m) (I : Ixs w v Q L) (hr : MsAt w rv roots) (h0 : (chkG Q L roots).1 ≠ 0) :
    Calls Tryz.prog 32 #[v,rv] w fun e w'=>∃ T a,e = .returned (.tuple #[.slice none 0 0,.iface T (.pointer (some a))]) /\ ErrAt w' A (.iface T (.pointer (some a))) (chkG Q L roots).1 (chkG Q L roots).2 /\ Below w.heap.size w w':=by
  have HCK:=hid (reach_bad Q L roots v rv A m w hn hrn sh S I hr h0)
  obtain ⟨a,c,hv,-⟩:=id I.es
  subst hv
  obtain ⟨ra,rc,hrv,-⟩:=id hr
  subst hrv
  clear S I hr sh h0
  go_enter Tryz.func32,Tryz.ntmps32
  go_wp2_with fail
  refine HCK.out.mono ?_
  rintro e w1 ⟨T,xa,rfl,he,hb⟩
  have HB:=hid hb
  have HE:=hid he
  clear hb he HCK
  go_wp2_with fail
  go_ret2
  exact ⟨_,_,rfl,HE.out,HB.out⟩
set_option maxRecDepth 100000 in
set_option maxHeartbeats 2000000 in
theorem build_good (Q : List Raw) (L : List Ent) (roots : List Bm) (v rv : Value) (A : Nat -> Addr) (m : Int) (w : World) (hn : L.length <= 1000) (hrn : roots.length <= 1000000) (sh : ∀ e,e ∈ L -> ShE e) (S : Te w A m) (I : Ixs w v Q L) (hr : MsAt w rv roots) (h0 : (chkG Q L roots).1 = 0) :
    Calls Tryz.prog 32 #[v,rv] w fun e w'=>∃ u E,e = .returned (.tuple #[u,.nilIface]) /\ Bt Q L roots E /\ Mr w w' u E:=by
  have HRE:=hid (reach_good Q L roots v rv A m w hn hrn sh S I hr h0)
  have hl : L.length <= 100:=by
    by_cases hc : (chk Q L).1 = 0
    · exact (chk_each0 hc).1
    · rw [chkG_bad hc] at h0; exact absurd h0 hc
  have HS:=hid S
  have HI:=hid I
  have HSH:=hid sh
  obtain ⟨a,c,hv,-⟩:=id I.es
  subst hv
  obtain ⟨ra,rc,hrv,-⟩:=id hr
  subst hrv
  clear S I hr sh h0
  go_enter Tryz.func32,Tryz.ntmps32
  go_wp2_with fail
  refine HRE.out.mono ?_
  rintro e w1 ⟨u,rfl,T,hcm,hown,hb⟩
  have HCM:=hid hcm
  have HB:=hid hb
  have hgl:=goM_lenJ HI.out T
  have HM:=hid (mr_own hown hb)
  have HJ:=hid (join_mods (goM T Q) [] u (.slice none 0 0) A m w1 HM.out.ms (ms_none w1) HM.out.em em_none (by omega) (by simp) (fun r hr=>univ_szJ HSH.out (goM_sub HI.out (by simpa using hr))) (HS.out.below hb))
  rw [List.append_nil] at HJ
  obtain ⟨ua,uc,hu⟩:=HM.out.sl
  subst hu
  clear hcm hown hb HRE HM
  go_wp2_with fail
  refine HJ.out.mono ?_
  rintro e w2 ⟨x,E,rfl,hel,hj,hm⟩
  have HMX:=hid (hm.base HB.out)
  have HBT:=hid (show Bt Q L roots E from ⟨T,HCM.out,hj,hel⟩)
  obtain ⟨xa,xc,hx⟩:=hm.sl
  subst hx
  clear hel hj hm HJ
  go_wp2_with fail
  go_ret2
  exact ⟨_,E,rfl,HBT.out,HMX.out⟩
theorem sm_jn : Jn [ma0, ma1, mb0] [ma1, mb0] := by
  have e0 : decide (ordV (vb ma0) (vb ma1) <= 0) = true:=by kernel_rfl
  have e1 : decide (ordV (vb ma1) (vb ma1) <= 0) = true:=by kernel_rfl
  have e2 : decide (ordV (vb mb0) (vb mb0) <= 0) = true:=by kernel_rfl
  have m1 : mErr ma1 = 0:=by kernel_rfl
  have m2 : mErr mb0 = 0:=by kernel_rfl
  have l1 : lt ma1.1 mb0.1 = true:=by kernel_rfl
  refine ⟨?_,fun e he=>?_,fun x hx _=>?_⟩
  · refine List.pairwise_cons.2 ⟨fun b hb=>?_,List.pairwise_singleton _ _⟩
    rw [List.mem_singleton.1 hb]; exact l1
  · rcases List.mem_cons.1 he with rfl | he
    · exact ⟨by simp,m1⟩
    · rw [List.mem_singleton.1 he]; exact ⟨by simp,m2⟩
  · rcases List.mem_cons.1 hx with rfl | hx
    · exact ⟨ma1,by simp,rfl,of_decide_eq_true e0⟩
    · rcases List.mem_cons.1 hx with rfl | hx
      · exact ⟨ma1,by simp,rfl,of_decide_eq_true e1⟩
      · rw [List.mem_singleton.1 hx]
        exact ⟨mb0,by simp,rfl,of_decide_eq_true e2⟩
end Ve
end Go.Proofs.YtlcffhadobhfkaaGreatDoor
