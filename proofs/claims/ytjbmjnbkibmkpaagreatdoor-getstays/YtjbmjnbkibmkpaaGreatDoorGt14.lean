
import Derived.Test.YtjbmjnbkibmkpaaGreatDoorGt10
import Derived.Test.YtjbmjnbkibmkpaaGreatDoorGt9
import Derived.Deep.RegionHeld
import Derived.Test.YtjbmjnbkibmkpaaGreatDoorGt5
import Derived.Test.YtjbmjnbkibmkpaaGreatDoorGt8
import Derived.Test.YtjbmjnbkibmkpaaGreatDoorGt6
import Derived.Laws.OwnMore
import Derived.Test.YtjbmjnbkibmkpaaGreatDoorGt11
import Derived.Test.YtjbmjnbkibmkpaaGreatDoorGt7
import Derived.Maps.OwnSet
import Derived.DeepKeys4
import Derived.MapViews
set_option maxHeartbeats 8000000
namespace Go.Proofs.YtjbmjnbkibmkpaaGreatDoor
open Go.RowKit
namespace Ve
end Ve
end Go.Proofs.YtjbmjnbkibmkpaaGreatDoor


namespace Go.Proofs.YtjbmjnbkibmkpaaGreatDoor
open Go.RowKit
namespace Ve
end Ve
end Go.Proofs.YtjbmjnbkibmkpaaGreatDoor


namespace Go.Proofs.YtjbmjnbkibmkpaaGreatDoor
open Go.RowKit
namespace Ve
end Ve
end Go.Proofs.YtjbmjnbkibmkpaaGreatDoor


namespace Go.Proofs.YtjbmjnbkibmkpaaGreatDoor
open Go.RowKit
namespace Ve
theorem cb_lt_iff : ∀ (a b : List UInt8),Lib.compareBytes a b < 0 ↔ a < b
 | [],[]=>by simp [Lib.compareBytes]
 | [],b :: bs=>by simp [Lib.compareBytes]
 | a :: r,[]=>by simp [Lib.compareBytes]
 | a :: r,b :: bs=>by
  simp only [Lib.compareBytes]
  rw [List.cons_lt_cons_iff]
  by_cases h1 : a < b
  ·rw [if_pos h1]; simp [h1]
  ·rw [if_neg h1]
   by_cases h2 : b < a
   ·rw [if_pos h2]
    have : ¬ a = b:=fun e=>by subst e; exact absurd h2 (UInt8.lt_irrefl _)
    simp [h1,this]
   ·rw [if_neg h2]
    have : a = b:=u8_eq h1 h2
    subst this
    rw [cb_lt_iff r bs]
    simp [h1]
theorem range_get (S : List (List UInt8)) : (List.range S.length).map (fun j=>S.toArray[j]!) = S:=by
 apply List.ext_getElem
 ·simp
 ·intro j h1 h2
  simp [h2]
def rsT (Z : List (List UInt8)) : Prop:=∀ j (h : j + 1 < Z.length),Lib.compareBytes Z[j] Z[j + 1] < 0
theorem rsT_pair {Z : List (List UInt8)} (h : rsT Z) : Z.Pairwise fun x y=>x < y:=by
 have go : ∀ (d i : Nat) (hi : i + d + 1 < Z.length),Z[i] < Z[i + d + 1]:=fun d=>by
  induction d with
  | zero=>intro i hi; exact (cb_lt_iff _ _).1 (h i hi)
  | succ d ih=>
   intro i hi
   exact List.lt_trans (ih i (by omega)) ((cb_lt_iff _ _).1 (h (i + d + 1) hi))
 rw [List.pairwise_iff_getElem]
 intro i j hi hj hij
 obtain ⟨d,rfl⟩ : ∃ d,j = i + d + 1:=⟨j - i - 1,by omega⟩
 exact go d i hj
theorem ris_iff (Z : List (List UInt8)) : Z = risB Z ↔ rsT Z:=by
 have hsrt : (srtB Z).Pairwise fun x y=>x <= y:=by
  have h:=List.pairwise_mergeSort (le:=fun x y : List UInt8=>decide (x <= y)) (fun a b c h1 h2=>by simp only [decide_eq_true_eq] at *; exact List.le_trans h1 h2) (fun a b=>by simp only [Bool.or_eq_true,decide_eq_true_eq]; exact List.le_total a b) Z
  unfold srtB
  exact h.imp fun h=>of_decide_eq_true h
 have hlen : (srtB Z).length = Z.length:=by unfold srtB; exact List.length_mergeSort Z
 constructor
 ·intro h
  have hl : (risB Z).length = (srtB Z).length:=by rw [<- h,hlen]
  unfold risB Lib.compact Lib.compactUpTo at hl
  rw [List.length_map] at hl
  have hk:=List.length_filter_eq_length_iff.1 (hl.trans (by simp))
  have hk' : ∀ j,j < (srtB Z).length -> Lib.keeps (srtB Z).toArray j = true:=fun j hj=>hk j (List.mem_range.2 hj)
  have hS : Z = srtB Z:=by
   have h5 : risB Z = srtB Z:=by
    unfold risB Lib.compact
    rw [Lib.compactUpTo_all _ _ hk',range_get]
   exact h.trans h5
  intro j hj
  have h1:=hk' (j + 1) (by rw [hlen]; exact hj)
  have h2 : (srtB Z)[j + 1]'(by rw [hlen]; exact hj) ≠ (srtB Z)[j]'(by rw [hlen]; omega):=by
   have h3 : decide (j + 1 = 0 \/ (srtB Z).toArray[j + 1]! ≠ (srtB Z).toArray[j + 1 - 1]!) = true:=h1
   rcases of_decide_eq_true h3 with h4 | h4
   ·omega
   ·intro e
    apply h4
    rw [getElem!_pos _ _ (by simp [hlen]; exact hj),getElem!_pos _ _ (by simp [hlen]; omega)]
    simpa using e
  have h3:=List.pairwise_iff_getElem.1 hsrt j (j + 1) (by rw [hlen]; omega) (by rw [hlen]; exact hj) (by omega)
  have e1 : Z[j] = (srtB Z)[j]'(by rw [hlen]; omega):=by congr 1
  have e2 : Z[j + 1] = (srtB Z)[j + 1]'(by rw [hlen]; exact hj):=by congr 1
  rw [cb_lt_iff,e1,e2]
  rcases List.le_iff_lt_or_eq.1 h3 with h6 | h6
  ·exact h6
  ·exact absurd h6.symm h2
 ·intro h
  have hp:=rsT_pair h
  have hS : srtB Z = Z:=by
   unfold srtB
   exact List.mergeSort_of_pairwise (hp.imp fun h=>decide_eq_true (List.le_of_lt h))
  unfold risB Lib.compact
  rw [hS,Lib.compactUpTo_all,range_get]
  intro j hj
  cases j with
  | zero=>exact Lib.keeps_lt_one _ 0 (by omega)
  | succ j=>
   refine Lib.keeps_pos ?_
   rw [getElem!_pos _ _ (by simpa using hj),getElem!_pos _ _ (by simp; omega)]
   intro e
   have h1:=List.pairwise_iff_getElem.1 hp j (j + 1) (by omega) hj (by omega)
   have e' : Z[j + 1] = Z[j]:=by simpa using e
   rw [e'] at h1
   exact absurd h1 (List.lt_irrefl _)
end Ve
end Go.Proofs.YtjbmjnbkibmkpaaGreatDoor


namespace Go.Proofs.YtjbmjnbkibmkpaaGreatDoor
open Go.RowKit Go.Maps
namespace Ve
theorem both_run (X Y : List Bm) (dv sv : Value) (W : World) (B : Nat) (hB : B <= W.heap.size) (hX : X.length <= 1000) (hY : Y.length <= 1000) (ho : W.ownsRow B 47 2 dv X.length (flatM X)) (h : MsAt W sv Y) (he : Em sv Y) :
  ∃ v' W',(Builtin.append_ #[23,23] 23 #[dv,sv]).run Tryz.prog W = .ok v' W' /\ W'.ownsRow B 47 2 v' (X ++ Y).length (flatM (X ++ Y)) /\ W.grownBy W' dv.ownBlock:=by
 obtain ⟨i0,hi,hz0,hz1,hz2⟩:=info_parts infoMod
 obtain ⟨a,c,rfl,hc,h2⟩:=h
 have some_case : ∀ a',(∀ j u,(flatM Y)[j]? = some u -> W.cell? (a'.add j) = some u) -> ∃ v' W',(Builtin.append_ #[23,23] 23 #[dv,.slice (some a') Y.length c]).run Tryz.prog W = .ok v' W' /\ W'.ownsRow B 47 2 v' (X ++ Y).length (flatM (X ++ Y)) /\ W.grownBy W' dv.ownBlock:=fun a' hcell=>by
  obtain ⟨v',W',h3,h4,h5,_⟩:=run_append_own (P:=Tryz.prog) W B 23 23 47 i0 _ 2 32 Tryz.underlying23 hi hz0 hz1 hz2 rfl (by decide) dv X.length (flatM X) ho a' Y.length c (flatM Y) (flatM_len Y) hcell (flat_one Y) (by unfold maxLen; omega) (by omega) hB
  exact ⟨v',W',h3,by rw [List.length_append,flatM_app]; exact h4,h5⟩
 cases Y with
 | nil=>
  rcases he a c rfl rfl with hz | ⟨a',hz⟩
  ·refine ⟨dv,W,?_,by simpa using ho,⟨rfl,rfl,rfl,Nat.le_refl _,fun _ _ _=>rfl⟩⟩
   show (Builtin.append_ #[23,23] 23 #[dv,.slice a 0 c]).run Tryz.prog W = _
   rw [hz]
   exact run_append_owned_none (P:=Tryz.prog) (w:=W) B 23 23 47 i0 2 Tryz.underlying23 hi dv X.length (flatM X) ho
  ·have hz' : (Value.slice a ([] : List Bm).length c) = .slice (some a') ([] : List Bm).length c:=hz
   rw [hz']
   exact some_case a' (fun j u hj=>by simp [flatM] at hj)
 | cons x r=>
  obtain ⟨b,o,rfl,hcell⟩:=h2 (by simp)
  exact some_case ⟨b,o,none⟩ (fun j u hj=>by rw [Addr.add_lit]; exact ms_flat hcell j u hj)
end Ve
end Go.Proofs.YtjbmjnbkibmkpaaGreatDoor


namespace Go.Proofs.YtjbmjnbkibmkpaaGreatDoor
open Go.RowKit
namespace Ve
theorem idx_is {P : Raw -> Bool} {L : List Raw} {k : Nat} (h : idxOf P L = (k : Int)) : ∃ hk : k < L.length,P L[k] = true:=by
 unfold idxOf at h
 cases h1 : fstE (idxE P L) L.length with
 | none=>rw [h1] at h; simp only at h; omega
 | some j=>
  rw [h1] at h
  simp only at h
  have e : j = k:=by omega
  subst e
  obtain ⟨a,b,_⟩:=fstE_of_some h1
  refine ⟨a,?_⟩
  rw [idxE_at a] at b
  cases hp : P L[j] with
  | true=>rfl
  | false=>rw [hp] at b; exact absurd rfl b
theorem ErrAt.kind {W : World} {A : Nat -> Addr} {x : Value} {c : Nat} {o : Option Nat} (h : ErrAt W A x c o) : (c = 0 /\ x = .nilIface) \/ (c ≠ 0 /\ ∃ T a,x = .iface T (.pointer (some a))):=by
 cases o with
 | none=>
  have h : x = errA A c:=h
  by_cases hc : c = 0
  ·subst hc; exact Or.inl ⟨rfl,h⟩
  ·obtain ⟨a,ha⟩:=errA_ne A hc
   exact Or.inr ⟨hc,_,a,h.trans ha⟩
 | some i=>
  obtain ⟨h1,b,h2,_⟩:=h
  exact Or.inr ⟨h1,_,_,h2⟩
theorem okI_iff {L : List Ent} (h : okI L = true) : (L.length <= 30 \/ L.length = 101) /\ ∀ e,e ∈ L -> e.1.1.size <= 70 /\ e.1.2.size <= 60 /\ e.2.1.length <= 25 /\ (∀ m,m ∈ e.2.1 -> m.1.size <= 70 /\ m.2.size <= 60) /\ e.2.2.1.length <= 15 /\ ∀ x,x ∈ e.2.2.1 -> x.size <= 70:=by
 unfold okI at h
 rw [Bool.and_eq_true] at h
 obtain ⟨h1,h2⟩:=h
 refine ⟨by simpa [okN] using h1,fun e he=>?_⟩
 have h3:=List.all_eq_true.1 h2 e he
 unfold okE at h3
 simp only [Bool.and_eq_true,decide_eq_true_eq] at h3
 obtain ⟨⟨⟨⟨a,b⟩,c⟩,d⟩,f⟩:=h3
 obtain ⟨c1,c2⟩:=okL_iff c
 refine ⟨a,b,c1,c2,d,fun x hx=>?_⟩
 have:=List.all_eq_true.1 f x hx
 simpa using this
theorem okI_sh {L : List Ent} (h : okI L = true) : ∀ e,e ∈ L -> ShE e:=fun e he=>by
 obtain ⟨a,b,c,d,f,g⟩:=(okI_iff h).2 e he
 exact ⟨by omega,by omega,by omega,fun m hm=>⟨by have:=(d m hm).1; omega,by have:=(d m hm).2; omega⟩,by omega,fun x hx=>by have:=g x hx; omega⟩
theorem okI_fits {L : List Ent} (h : okI L = true) : ∀ e,e ∈ L -> Fits e:=fun e he=>by
 obtain ⟨a,b,c,d,f,g⟩:=(okI_iff h).2 e he
 exact ⟨by omega,by omega⟩
end Ve
end Go.Proofs.YtjbmjnbkibmkpaaGreatDoor


namespace Go.Proofs.YtjbmjnbkibmkpaaGreatDoor
open Go.RowKit Go.Maps
namespace Ve
theorem es_all {W : World} {b o n c : Nat} {Q : List Raw} (h : EsAt W (.slice (some ⟨b,o,none⟩) n c) Q) {k : Nat} (hk : k < Q.length) : slR Q[k] /\ W.cell? ⟨b,o + k * 5,none⟩ = some (.string Q[k].1.1) /\ W.cell? ⟨b,o + k * 5 + 1,none⟩ = some (.string Q[k].1.2) /\ W.cell? ⟨b,o + k * 5 + 2,none⟩ = some Q[k].2.1 /\ W.cell? ⟨b,o + k * 5 + 3,none⟩ = some Q[k].2.2.1 /\ W.cell? ⟨b,o + k * 5 + 4,none⟩ = some (.bool Q[k].2.2.2):=by
 obtain ⟨a',c',e,_,hs,h⟩:=h
 injection e with e1 e2 e3
 subst e1
 obtain ⟨b',o',e4,h4⟩:=h (by intro h0; rw [h0] at hk; simp at hk)
 injection e4 with e4
 injection e4 with e5 e6
 subst e5 e6
 exact ⟨hs _ (List.getElem_mem hk),h4 k hk⟩
theorem pk_rise {Z : List (List UInt8)} (h : ¬ 10 < Z.length) (h1 : Z.any noPk = false) (h2 : rsT Z) : packErr Z = 0:=pk_ok h h1 ((ris_iff Z).2 h2)
end Ve
end Go.Proofs.YtjbmjnbkibmkpaaGreatDoor


namespace Go.Proofs.YtjbmjnbkibmkpaaGreatDoor
open Go.RowKit Go.Maps
namespace Ve
def eqM (x m : Bm) : Bool:=decide (x.1 = m.1 /\ x.2 = m.2)
theorem eqM_iff {x m : Bm} : eqM x m = true ↔ x = m:=by
 unfold eqM
 rw [decide_eq_true_iff]
 exact ⟨fun h=>Prod.ext h.1 h.2,fun h=>by rw [h]; exact ⟨rfl,rfl⟩⟩
theorem eqM_ne {x m : Bm} (h : x ≠ m) : eqM x m = false:=by
 cases e : eqM x m with
 | false=>rfl
 | true=>exact absurd (eqM_iff.1 e) h
theorem eqM_run (x m : Bm) (W : World) : (binOp .eql 47 (.agg #[.string x.1,.string x.2]) (.agg #[.string m.1,.string m.2])).run Tryz.prog W = .ok (.bool (eqM x m)) W:=modEql x.1 x.2 m.1 m.2 W
theorem MsAt.cells {w : World} {a : Option Addr} {n c : Nat} {L : List Bm} (h : MsAt w (.slice a n c) L) {k : Nat} (hk : k < L.length) : ∃ b o,a = some ⟨b,o,none⟩ /\ w.cell? ⟨b,o + k * 2,none⟩ = some (.string L[k].1) /\ w.cell? ⟨b,o + k * 2 + 1,none⟩ = some (.string L[k].2):=by
 obtain ⟨a',c',e,_,h⟩:=h
 injection e with e1 e2 e3
 subst e1
 obtain ⟨b,o,e4,h4⟩:=h (by intro h0; rw [h0] at hk; simp at hk)
 exact ⟨b,o,e4,h4 k hk⟩
theorem es_cells {W : World} {a : Option Addr} {n c : Nat} {Q : List Raw} (h : EsAt W (.slice a n c) Q) {k : Nat} (hk : k < Q.length) : ∃ b o,a = some ⟨b,o,none⟩ /\ W.cell? ⟨b,o + k * 5 + 2,none⟩ = some Q[k].2.1:=by
 obtain ⟨a',c',e,_,_,h⟩:=h
 injection e with e1 e2 e3
 subst e1
 obtain ⟨b',o',e4,h4⟩:=h (by intro h0; rw [h0] at hk; simp at hk)
 exact ⟨b',o',e4,(h4 k hk).2.2.1⟩
end Ve
end Go.Proofs.YtjbmjnbkibmkpaaGreatDoor


namespace Go.Proofs.YtjbmjnbkibmkpaaGreatDoor
open Go.RowKit Go.Maps
namespace Ve
end Ve
end Go.Proofs.YtjbmjnbkibmkpaaGreatDoor


namespace Go.Proofs.YtjbmjnbkibmkpaaGreatDoor
open Go.RowKit Go.Maps
namespace Ve
end Ve
end Go.Proofs.YtjbmjnbkibmkpaaGreatDoor


namespace Go.Proofs.YtjbmjnbkibmkpaaGreatDoor
open Go.RowKit Go.Maps
namespace Ve
end Ve
end Go.Proofs.YtjbmjnbkibmkpaaGreatDoor


namespace Go.Proofs.YtjbmjnbkibmkpaaGreatDoor
namespace Ve
abbrev By:=List (Bm × Bm)
def whoT (T : By) : List Bm:=T.map fun x=>x.1
theorem whoT_len (T : By) : (whoT T).length = T.length:=by simp [whoT]
theorem whoT_get {T : By} {k : Nat} (h : k < T.length) : (whoT T)[k]'(by rw [whoT_len]; exact h) = T[k].1:=by simp [whoT]
theorem whoT_mem {T : By} {m : Bm} : m ∈ whoT T ↔ ∃ k,∃ h : k < T.length,T[k].1 = m:=by
 constructor
 ·intro h
  obtain ⟨k,hk,e⟩:=List.getElem_of_mem h
  have hk2 : k < T.length:=by rw [<- whoT_len]; exact hk
  exact ⟨k,hk2,by rw [<- whoT_get hk2]; exact e⟩
 ·rintro ⟨k,h,rfl⟩
  exact List.mem_map.2 ⟨T[k],List.getElem_mem h,rfl⟩
def cameB (T : By) (m : Bm) : Bool:=T.any fun x=>decide (x.1.1 = m.1 /\ x.1.2 = m.2)
theorem cameB_iff {T : By} {m : Bm} : cameB T m = true ↔ m ∈ whoT T:=by
 unfold cameB
 rw [List.any_eq_true]
 constructor
 ·rintro ⟨x,hx,h⟩
  have h2:=of_decide_eq_true h
  exact List.mem_map.2 ⟨x,hx,Prod.ext h2.1 h2.2⟩
 ·intro h
  obtain ⟨x,hx,e⟩:=List.mem_map.1 h
  exact ⟨x,hx,decide_eq_true (by rw [e]; exact ⟨rfl,rfl⟩)⟩
theorem cameB_not {T : By} {m : Bm} (h : cameB T m = false) : m ∉ whoT T:=fun hm=>by rw [cameB_iff.2 hm] at h; cases h
def comeT (T : By) (m f : Bm) : By:=if cameB T m then T else T ++ [(m,f)]
theorem come_yes {T : By} {m f : Bm} (h : cameB T m = true) : comeT T m f = T:=by unfold comeT; rw [if_pos h]
theorem come_no {T : By} {m f : Bm} (h : cameB T m = false) : comeT T m f = T ++ [(m,f)]:=by unfold comeT; rw [h]; rfl
theorem whoT_app (T : By) (m f : Bm) : whoT (T ++ [(m,f)]) = whoT T ++ [m]:=by simp [whoT]
theorem come_mem (T : By) (m f : Bm) : m ∈ whoT (comeT T m f):=by
 cases h : cameB T m
 ·rw [come_no h,whoT_app]; simp
 ·rw [come_yes h]; exact cameB_iff.1 h
theorem come_sub {T : By} {m f x : Bm} (h : x ∈ whoT T) : x ∈ whoT (comeT T m f):=by
 cases hc : cameB T m
 ·rw [come_no hc,whoT_app]; simp [h]
 ·rw [come_yes hc]; exact h
theorem come_old (T : By) (m f : Bm) : ∃ R,comeT T m f = T ++ R:=by
 cases hc : cameB T m
 ·exact ⟨[(m,f)],come_no hc⟩
 ·exact ⟨[],by rw [come_yes hc]; simp⟩
theorem nd_len {α : Type} [DecidableEq α] : ∀ (a b : List α),a.Nodup -> (∀ x,x ∈ a -> x ∈ b) -> a.length <= b.length
 | [],_,_,_=>Nat.zero_le _
 | x :: a,b,hn,hs=>by
  obtain ⟨h1,h2⟩:=List.nodup_cons.1 hn
  have hx:=hs x (by simp)
  have h3:=nd_len a (b.erase x) h2 (fun y hy=>(List.mem_erase_of_ne (fun e=>h1 (by rw [<- e]; exact hy))).2 (hs y (List.mem_cons_of_mem _ hy)))
  rw [List.length_erase_of_mem hx] at h3
  have:=List.length_pos_of_mem hx
  simp
  omega
structure Bfs (req : Bm -> List Bm) (U roots : List Bm) (T : By) (i : Nat) : Prop where
 le : i <= T.length
 nd : (whoT T).Nodup
 un : ∀ m,m ∈ whoT T -> m ∈ U
 by_ : ∀ k (h : k < T.length),(T[k].1 = T[k].2 /\ T[k].1 ∈ roots) \/ ∃ j,∃ hj : j < k,(T[j]'(Nat.lt_trans hj h)).1 = T[k].2 /\ T[k].1 ∈ req T[k].2
 cl : ∀ j (h : j < T.length),j < i -> ∀ m,m ∈ req T[j].1 -> m ∈ whoT T
theorem Bfs.none (req : Bm -> List Bm) (U roots : List Bm) : Bfs req U roots [] 0:=⟨Nat.le_refl _,by simp [whoT],fun m h=>by simp [whoT] at h,fun k h=>absurd h (Nat.not_lt_zero _),fun j h=>absurd h (Nat.not_lt_zero _)⟩
theorem Bfs.len {req : Bm -> List Bm} {U roots : List Bm} {T : By} {i : Nat} (h : Bfs req U roots T i) : T.length <= U.length:=by
 have:=nd_len (whoT T) U h.nd h.un
 rw [whoT_len] at this
 exact this
theorem Bfs.come {req : Bm -> List Bm} {U roots : List Bm} {T : By} {i : Nat} (h : Bfs req U roots T i) {m f : Bm} (hm : m ∈ U) (hf : (m = f /\ m ∈ roots) \/ (f ∈ whoT T /\ m ∈ req f)) : Bfs req U roots (comeT T m f) i:=by
 cases hc : cameB T m
 ·rw [come_no hc]
  have hn : m ∉ whoT T:=cameB_not hc
  refine ⟨by have:=h.le; simp; omega,?_,?_,?_,?_⟩
  ·rw [whoT_app]
   exact List.nodup_append.2 ⟨h.nd,by simp,fun a ha b hb e=>by simp at hb; subst hb; subst e; exact hn ha⟩
  ·intro x hx
   rw [whoT_app] at hx
   rcases List.mem_append.1 hx with hx | hx
   ·exact h.un x hx
   ·simp at hx; subst hx; exact hm
  ·intro k hk
   by_cases hkT : k < T.length
   ·have e : (T ++ [(m,f)])[k] = T[k]:=List.getElem_append_left hkT
    rw [e]
    rcases h.by_ k hkT with h1 | ⟨j,hj,h2,h3⟩
    ·exact Or.inl h1
    ·exact Or.inr ⟨j,hj,by rw [List.getElem_append_left (by omega)]; exact h2,h3⟩
   ·have hk2 : k = T.length:=by simp at hk; omega
    subst hk2
    have e : (T ++ [(m,f)])[T.length] = (m,f):=by simp
    rw [e]
    rcases hf with hf | ⟨hf,hr⟩
    ·exact Or.inl hf
    ·obtain ⟨j,hj,ej⟩:=whoT_mem.1 hf
     exact Or.inr ⟨j,hj,by rw [List.getElem_append_left hj]; exact ej,hr⟩
  ·intro j hj hji x hx
   rw [whoT_app]
   by_cases hjT : j < T.length
   ·rw [List.getElem_append_left hjT] at hx
    exact List.mem_append_left _ (h.cl j hjT hji x hx)
   ·have:=h.le; omega
 ·rw [come_yes hc]; exact h
theorem Bfs.next {req : Bm -> List Bm} {U roots : List Bm} {T : By} {i : Nat} (h : Bfs req U roots T i) (hi : i < T.length) (hr : ∀ m,m ∈ req T[i].1 -> m ∈ whoT T) : Bfs req U roots T (i + 1):=
 ⟨hi,h.nd,h.un,h.by_,fun j hj hji m hm=>by
  rcases Nat.lt_or_ge j i with h1 | h1
  ·exact h.cl j hj h1 m hm
  ·have : j = i:=by omega
   subst this
   exact hr m hm⟩
inductive Rch (req : Bm -> List Bm) (roots : List Bm) : Bm -> Prop
 | root {m : Bm} : m ∈ roots -> Rch req roots m
 | step {p m : Bm} : Rch req roots p -> m ∈ req p -> Rch req roots m
theorem Bfs.only {req : Bm -> List Bm} {U roots : List Bm} {T : By} {i : Nat} (h : Bfs req U roots T i) : ∀ (n k : Nat) (hk : k < T.length),k <= n -> Rch req roots T[k].1
 | 0,k,hk,hn=>by
  rcases h.by_ k hk with h1 | ⟨j,hj,_⟩
  ·exact .root h1.2
  ·omega
 | n + 1,k,hk,hn=>by
  rcases h.by_ k hk with h1 | ⟨j,hj,h2,h3⟩
  ·exact .root h1.2
  ·have:=h.only n j (by omega) (by omega)
   rw [h2] at this
   exact .step this h3
inductive Wn (req : Bm -> List Bm) (roots : List Bm) : Nat -> Bm -> Prop
 | root {m : Bm} : m ∈ roots -> Wn req roots 1 m
 | step {n : Nat} {p m : Bm} : Wn req roots n p -> m ∈ req p -> Wn req roots (n + 1) m
theorem Wn.pos {req : Bm -> List Bm} {roots : List Bm} {n : Nat} {m : Bm} (h : Wn req roots n m) : 1 <= n:=by
 cases h with
 | root _=>exact Nat.le_refl _
 | step _ _=>omega
structure LvOk (req : Bm -> List Bm) (roots : List Bm) (T : By) (i : Nat) (V : List Nat) : Prop where
 ln : V.length = T.length
 wn : ∀ k (h : k < T.length) (h' : k < V.length),Wn req roots V[k] T[k].1
 st : ∀ k (h : k < T.length) (h' : k < V.length),(T[k].1 = T[k].2 /\ V[k] = 1) \/ ∃ j,∃ hj : j < k,(T[j]'(Nat.lt_trans hj h)).1 = T[k].2 /\ V[k] = (V[j]'(Nat.lt_trans hj h')) + 1
 mo : ∀ a b (hb : b < V.length) (hab : a < b),(V[a]'(Nat.lt_trans hab hb)) <= V[b]
 nx : ∀ k (h : k < V.length) (hi : i < V.length),V[k] <= V[i] + 1
 pr : ∀ j (h : j < T.length) (h' : j < V.length),j < i -> ∀ m,m ∈ req T[j].1 -> ∃ k,∃ hk : k < T.length,∃ hk' : k < V.length,T[k].1 = m /\ V[k] <= V[j] + 1
 rt : ∀ k (h : k < T.length) (h' : k < V.length),T[k].1 ∈ roots -> V[k] = 1
theorem LvOk.none (req : Bm -> List Bm) (roots : List Bm) : LvOk req roots [] 0 []:=
 ⟨rfl,fun _ h=>absurd h (Nat.not_lt_zero _),fun _ h=>absurd h (Nat.not_lt_zero _),fun _ _ hb=>absurd hb (Nat.not_lt_zero _),fun _ h=>absurd h (Nat.not_lt_zero _),fun _ h=>absurd h (Nat.not_lt_zero _),fun _ h=>absurd h (Nat.not_lt_zero _)⟩
theorem LvOk.push {req : Bm -> List Bm} {roots : List Bm} {T : By} {i : Nat} {V : List Nat} (h : LvOk req roots T i V) {m f : Bm} {l : Nat} (hw : Wn req roots l m)
  (hs : (m = f /\ l = 1) \/ ∃ j,∃ hj : j < T.length,T[j].1 = f /\ l = (V[j]'(by rw [h.ln]; exact hj)) + 1) (hm : ∀ k (hk : k < V.length),V[k] <= l) (hn : ∀ (hi : i < V.length),l <= V[i] + 1) (hi0 : i <= T.length) (hi1 : i = V.length -> l <= l + 1) (hr : m ∈ roots -> l = 1) : LvOk req roots (T ++ [(m,f)]) i (V ++ [l]):=by
 have hl : V.length = T.length:=h.ln
 have gT : ∀ k (hk : k < T.length) (hk' : k < (T ++ [(m,f)]).length),(T ++ [(m,f)])[k] = T[k]:=fun k hk _=>List.getElem_append_left hk
 have gV : ∀ k (hk : k < V.length) (hk' : k < (V ++ [l]).length),(V ++ [l])[k] = V[k]:=fun k hk _=>List.getElem_append_left hk
 have eT : ∀ (hk' : T.length < (T ++ [(m,f)]).length),(T ++ [(m,f)])[T.length] = (m,f):=fun _=>by simp
 have eV : ∀ (hk' : T.length < (V ++ [l]).length),(V ++ [l])[T.length] = l:=fun _=>by
  have : ∀ (n : Nat) (hn : n = V.length) (hk : n < (V ++ [l]).length),(V ++ [l])[n] = l:=fun n hn hk=>by subst hn; simp
  exact this _ hl.symm _
 refine ⟨by simp [hl],?_,?_,?_,?_,?_,?_⟩
 ·intro k hk hk'
  by_cases hT : k < T.length
  ·rw [gT k hT hk,gV k (by omega) hk']; exact h.wn k hT _
  ·have : k = T.length:=by simp at hk; omega
   subst this
   rw [eT hk,eV hk']; exact hw
 ·intro k hk hk'
  by_cases hT : k < T.length
  ·rw [gT k hT hk,gV k (by omega) hk']
   rcases h.st k hT (by omega) with h1 | ⟨j,hj,h2,h3⟩
   ·exact Or.inl h1
   ·exact Or.inr ⟨j,hj,by rw [gT j (by omega)]; exact h2,by rw [gV j (by omega)]; exact h3⟩
  ·have : k = T.length:=by simp at hk; omega
   subst this
   rw [eT hk,eV hk']
   rcases hs with h1 | ⟨j,hj,h2,h3⟩
   ·exact Or.inl h1
   ·exact Or.inr ⟨j,hj,by rw [gT j hj]; exact h2,by rw [gV j (by omega)]; exact h3⟩
 ·intro a b hb hab
  by_cases hB : b < V.length
  ·rw [gV b hB hb,gV a (by omega)]; exact h.mo a b hB hab
  ·have : b = T.length:=by simp at hb; omega
   subst this
   rw [eV hb,gV a (by omega)]
   exact hm a (by omega)
 ·intro k hk hi
  by_cases hI : i < V.length
  ·rw [gV i hI hi]
   by_cases hK : k < V.length
   ·rw [gV k hK hk]; exact h.nx k hK hI
   ·have : k = T.length:=by simp at hk; omega
    subst this
    rw [eV hk]; exact hn hI
  ·have hie : i = T.length:=by simp at hi; omega
   subst hie
   rw [eV hi]
   by_cases hK : k < V.length
   ·rw [gV k hK hk]; exact Nat.le_succ_of_le (hm k hK)
   ·have : k = T.length:=by simp at hk; omega
    subst this
    rw [eV hk]; omega
 ·intro j hj hj' hji x hx
  have hjT : j < T.length:=by omega
  rw [gT j hjT hj] at hx
  obtain ⟨k,hk,hk',e,hle⟩:=h.pr j hjT (by omega) hji x hx
  refine ⟨k,by simp; omega,by simp; omega,by rw [gT k hk]; exact e,?_⟩
  rw [gV k hk',gV j (by omega)]; exact hle
 ·intro k hk hk' hx
  by_cases hT : k < T.length
  ·rw [gT k hT hk] at hx
   rw [gV k (by omega) hk']; exact h.rt k hT _ hx
  ·have : k = T.length:=by simp at hk; omega
   subst this
   rw [eT hk] at hx
   rw [eV hk']; exact hr hx
theorem LvOk.root {req : Bm -> List Bm} {roots : List Bm} {T : By} {V : List Nat} (h : LvOk req roots T 0 V) (h1 : ∀ k (hk : k < V.length),V[k] = 1) {m : Bm} (hm : m ∈ roots) : ∃ V',LvOk req roots (comeT T m m) 0 V' /\ ∀ k (hk : k < V'.length),V'[k] = 1:=by
 cases hc : cameB T m with
 | true=>rw [come_yes hc]; exact ⟨V,h,h1⟩
 | false=>
  rw [come_no hc]
  refine ⟨V ++ [1],h.push (.root hm) (Or.inl ⟨rfl,rfl⟩) (fun k hk=>by rw [h1 k hk]; exact Nat.le_refl _) (fun hi=>by omega) (Nat.zero_le _) (fun _=>by omega) (fun _=>rfl),fun k hk=>?_⟩
  by_cases hK : k < V.length
  ·rw [List.getElem_append_left hK]; exact h1 k hK
  ·have : k = V.length:=by simp at hk; omega
   subst this; simp
theorem LvOk.reqs {req : Bm -> List Bm} {roots : List Bm} {T : By} {i : Nat} {V : List Nat} (h : LvOk req roots T i V) (hi : i < T.length) (hall : ∀ m,m ∈ roots -> m ∈ whoT T) {m : Bm} (hm : m ∈ req T[i].1) : ∃ V',LvOk req roots (comeT T m T[i].1) i V':=by
 have hiV : i < V.length:=by rw [h.ln]; exact hi
 cases hc : cameB T m with
 | true=>rw [come_yes hc]; exact ⟨V,h⟩
 | false=>
  rw [come_no hc]
  exact ⟨V ++ [V[i] + 1],h.push (.step (h.wn i hi hiV) hm) (Or.inr ⟨i,hi,rfl,rfl⟩) (fun k hk=>h.nx k hk hiV) (fun _=>Nat.le_refl _) (Nat.le_of_lt hi) (fun e=>by omega) (fun hr=>absurd (hall m hr) (cameB_not hc))⟩
theorem LvOk.next {req : Bm -> List Bm} {roots : List Bm} {T : By} {i : Nat} {V : List Nat} (h : LvOk req roots T i V) (hi : i < T.length) (hr : ∀ m,m ∈ req T[i].1 -> m ∈ whoT T) : LvOk req roots T (i + 1) V:=by
 have hiV : i < V.length:=by rw [h.ln]; exact hi
 refine ⟨h.ln,h.wn,h.st,h.mo,fun k hk hi1=>?_,fun j hj hj' hji m hm=>?_,h.rt⟩
 ·exact Nat.le_trans (h.nx k hk hiV) (Nat.succ_le_succ (h.mo i (i + 1) hi1 (Nat.lt_succ_self i)))
 ·rcases Nat.lt_or_ge j i with h1 | h1
  ·exact h.pr j hj hj' h1 m hm
  ·have : j = i:=by omega
   subst this
   obtain ⟨k,hk,e⟩:=whoT_mem.1 (hr m hm)
   exact ⟨k,hk,by rw [h.ln]; exact hk,e,h.nx k (by rw [h.ln]; exact hk) hiV⟩
structure Came (req : Bm -> List Bm) (U roots : List Bm) (T : By) : Prop where
 b : Bfs req U roots T T.length
 r : ∀ m,m ∈ roots -> m ∈ whoT T
 l : ∃ V,LvOk req roots T T.length V
theorem Came.iff {req : Bm -> List Bm} {U roots : List Bm} {T : By} (h : Came req U roots T) (m : Bm) : m ∈ whoT T ↔ Rch req roots m:=by
 constructor
 ·intro hm
  obtain ⟨k,hk,rfl⟩:=whoT_mem.1 hm
  exact h.b.only k k hk (Nat.le_refl _)
 ·intro hm
  induction hm with
  | root hr=>exact h.r _ hr
  | step _ hr ih=>
   obtain ⟨k,hk,rfl⟩:=whoT_mem.1 ih
   exact h.b.cl k hk hk _ hr
theorem Came.cameB {req : Bm -> List Bm} {U roots : List Bm} {T : By} (h : Came req U roots T) (m : Bm) : Ve.cameB T m = true ↔ Rch req roots m:=by
 rw [cameB_iff]
 exact h.iff m
theorem Rch.mono {req : Bm -> List Bm} {r r' : List Bm} (hs : ∀ m,m ∈ r -> m ∈ r') {m : Bm} (h : Rch req r m) : Rch req r' m:=by
 induction h with
 | root hr=>exact .root (hs _ hr)
 | step _ hr ih=>exact .step ih hr
theorem Rch.app {req : Bm -> List Bm} {a b : List Bm} {m : Bm} : Rch req (a ++ b) m ↔ Rch req a m \/ Rch req b m:=by
 constructor
 ·intro h
  induction h with
  | root hr=>
   rcases List.mem_append.1 hr with h1 | h1
   ·exact Or.inl (.root h1)
   ·exact Or.inr (.root h1)
  | step _ hr ih=>
   rcases ih with h1 | h1
   ·exact Or.inl (.step h1 hr)
   ·exact Or.inr (.step h1 hr)
 ·rintro (h | h)
  ·exact h.mono fun m hm=>List.mem_append_left _ hm
  ·exact h.mono fun m hm=>List.mem_append_right _ hm
inductive Wy (req : Bm -> List Bm) (T : By) : Bm -> Nat -> List Bm -> Prop
 | start {k : Nat} (h : k < T.length) : Wy req T T[k].1 k [T[k].1]
 | next {m : Bm} {k j : Nat} {Y : List Bm} : Wy req T m k Y -> (hk : k < T.length) -> (hj : j < k) -> (T[j]'(Nat.lt_trans hj hk)).1 = T[k].2 -> T[k].1 ∈ req T[k].2 -> Wy req T m j ((T[j]'(Nat.lt_trans hj hk)).1 :: Y)
theorem Wy.pos {req : Bm -> List Bm} {T : By} {m : Bm} {k : Nat} {Y : List Bm} (h : Wy req T m k Y) : 0 < Y.length:=by
 cases h with
 | start h=>simp
 | next h hk hj _ _=>simp
end Ve
end Go.Proofs.YtjbmjnbkibmkpaaGreatDoor


namespace Go.Proofs.YtjbmjnbkibmkpaaGreatDoor
namespace Ve
def unm : List Bool -> Nat
 | []=>0
 | true :: l=>unm l
 | false :: l=>unm l + 1
theorem unm_set : ∀ (O : List Bool) (a : Nat) (h : a < O.length),O[a] = false -> unm (O.set a true) + 1 = unm O
 | [],_,h,_=>absurd h (Nat.not_lt_zero _)
 | b :: O,0,_,e=>by
  have : b = false:=e
  subst this
  rfl
 | b :: O,a + 1,h,e=>by
  have ih:=unm_set O a (by simpa using h) (by simpa using e)
  rw [List.set_cons_succ]
  cases b
  ·show unm (O.set a true) + 1 + 1 = unm O + 1
   omega
  ·exact ih
structure Fr (req : Bm -> List Bm) (U roots : List Bm) (n i : Nat) (F : List Nat) : Prop where
 ln : F.length = U.length
 so : ∀ j (h : j < U.length) (h' : j < F.length),F[j] ≠ 0 -> Wn req roots F[j] U[j]
 bd : ∀ j (h' : j < F.length),F[j] <= n + 1
 lo : ∀ d j (h : j < U.length) (h' : j < F.length),d <= n -> Wn req roots d U[j] -> F[j] ≠ 0 /\ F[j] <= d
 dn : ∀ j (h : j < U.length) (h' : j < F.length),j < i -> F[j] = n -> ∀ m,m ∈ req U[j] -> ∃ a,∃ h : a < U.length,∃ h' : a < F.length,U[a] = m /\ F[a] ≠ 0
theorem Fr.first {req : Bm -> List Bm} {U roots : List Bm} {F : List Nat} (h : Fr req U roots 0 0 F) (hr : ∀ j (_ : j < U.length) (h' : j < F.length),U[j] ∈ roots -> F[j] ≠ 0) : Fr req U roots 1 0 F:=by
 refine ⟨h.ln,h.so,fun j hj=>Nat.le_succ_of_le (h.bd j hj),fun d j hj hj' hd hw=>?_,fun _ _ _ hh=>absurd hh (Nat.not_lt_zero _)⟩
 have hb:=h.bd j hj'
 have hp:=hw.pos
 have : d = 1:=by omega
 subst this
 cases hw with
 | root hm=>exact ⟨hr j hj hj' hm,hb⟩
 | step hq _=>exact absurd hq.pos (by omega)
end Ve
end Go.Proofs.YtjbmjnbkibmkpaaGreatDoor


namespace Go.Proofs.YtjbmjnbkibmkpaaGreatDoor
open Go.RowKit Go.Maps
namespace Ve
theorem gLaidOut : laidOutB Tryz.prog = true:=by kernel_rfl
theorem modRow : 47 < Tryz.prog.types.size:=of_decide_eq_true (by kernel_rfl)
theorem modDeep : Tryz.prog.keyTypeAt 2 47 = true:=by kernel_rfl
theorem modKeyT : Tryz.prog.keyType 47 = true:=by kernel_rfl
theorem modKey : Keyed Tryz.prog 47:=Keyed.of_law (deep_law_laid gLaidOut (m:=2) (by omega) modRow modDeep (by kernel_rfl))
theorem gCellsMod : Tryz.prog.cellsOf 47 = 2:=by kernel_rfl
theorem gCellsStr : Tryz.prog.cellsOf 9 = 1:=by kernel_rfl
def modV (m : Bm) : Value:=.agg #[.string m.1,.string m.2]
def kL (m : Bm) : Lit:=.string (keyBytes [.string m.1.data.toList,.string m.2.data.toList])
theorem keyLits_mod (n : Nat) (m : Bm) (h1 : m.1.size <= maxLen) (h2 : m.2.size <= maxLen) : Tryz.prog.keyLits (n + 2) 47 [.string m.1,.string m.2] = some [.string m.1.data.toList,.string m.2.data.toList]:=by
 unfold Program.keyLits
 rw [Tryz.underlying47]
 simp [gCellsMod,gCellsStr,Program.keyLits,Tryz.underlying9,h1,h2]
theorem keyOf_mod (m : Bm) (h1 : m.1.size <= maxLen) (h2 : m.2.size <= maxLen) : keyOf Tryz.prog 47 (modV m) = some (kL m):=by
 have hf : (modV m).formed Tryz.prog 47 = true:=by
  simp [modV,Value.formed,Tryz.underlying47,gCellsMod]
 have hl : Tryz.prog.keyLits (Tryz.prog.types.size + 1) 47 (modV m).cells.toList = some [.string m.1.data.toList,.string m.2.data.toList]:=by
  obtain ⟨n,hn⟩ : ∃ n,Tryz.prog.types.size + 1 = n + 2:=⟨Tryz.prog.types.size - 1,by have:=modRow; omega⟩
  rw [hn]
  exact keyLits_mod n m h1 h2
 unfold keyOf
 rw [Tryz.underlying47]
 simp only
 rw [if_pos (by rw [modKeyT,hf]; rfl),hl]
 rfl
theorem kL_inj {a b : Bm} (ha1 : a.1.size <= maxLen) (ha2 : a.2.size <= maxLen) (hb1 : b.1.size <= maxLen) (hb2 : b.2.size <= maxLen) (h : kL a = kL b) : a = b:=by
 have h1:=keyOf_mod a ha1 ha2
 have h2:=keyOf_mod b hb1 hb2
 rw [h] at h1
 have:=modKey.inj h1 h2
 simp only [modV,Value.agg.injEq,Array.mk.injEq,List.cons.injEq,Value.string.injEq,and_true] at this
 exact Prod.ext this.1 this.2
theorem kL_key (m : Bm) : WideAt.IsKeyLit (kL m):=trivial
def rB : Value -> Option (DataW Bm × List MemPlace)
 | .agg cs=>match cs.toList with
  | [.string a,.string b]=>some (.held (a,b),[])
  | _=>none
 | _=>none
theorem rB_mod (m : Bm) : rB (modV m) = some (.held m,[]):=rfl
theorem rB_inv {v : Value} {m : Bm} {ps : List MemPlace} (h : rB v = some (.held m,ps)) : v = modV m:=by
 cases v with
 | agg cs=>
  simp only [rB] at h
  split at h
  ·rename_i a b e
   simp only [Option.some.injEq,Prod.mk.injEq,DataW.held.injEq] at h
   obtain ⟨h1,_⟩:=h
   subst h1
   unfold modV
   congr 1
   exact Array.toList_inj.1 e
  ·cases h
 | _=>cases h
def datB (T : By) : DataW Bm:=T.foldl (fun D x=>D.put (kL x.1) (.held x.2)) (.map [])
theorem datB_app (T : By) (m f : Bm) : datB (T ++ [(m,f)]) = (datB T).put (kL m) (.held f):=by simp [datB,List.foldl_append]
def szT (T : By) : Prop:=∀ x,x ∈ T -> x.1.1.size <= maxLen /\ x.1.2.size <= maxLen
theorem datB_has {m : Bm} (h1 : m.1.size <= maxLen) (h2 : m.2.size <= maxLen) : ∀ {T : By},szT T -> has (datB T) (kL m) = cameB T m:=fun {T} hT=>by
 suffices ∀ (T : By) (D : DataW Bm),IsMap D -> szT T -> has (T.foldl (fun D x=>D.put (kL x.1) (.held x.2)) D) (kL m) = (has D (kL m) || cameB T m) by
  have:=this T (.map []) isMap_empty hT
  unfold datB
  rw [this]
  simp [has_eq]
 intro T
 induction T with
 | nil=>intro D _ _; simp [cameB]
 | cons x r ih=>
  intro D hD hs
  rw [List.foldl_cons,ih _ (hD.put _ _) (fun y hy=>hs y (List.mem_cons_of_mem _ hy))]
  by_cases e : x.1 = m
  ·subst e
   rw [has_put_same hD (kL_key _)]
   simp [cameB]
  ·have hx:=hs x (by simp)
   rw [has_put_other (fun he=>e (kL_inj hx.1 hx.2 h1 h2 he.symm))]
   have : cameB (x :: r) m = cameB r m:=by
    unfold cameB
    rw [List.any_cons,decide_eq_false (fun he=>e (Prod.ext he.1 he.2)),Bool.false_or]
   rw [this]
theorem datB_held (T : By) (k : Lit) (z : Bm) : ∃ x,(datB T).atKey k (.held z) = .held x:=by
 suffices ∀ (T : By) (D : DataW Bm),IsMap D -> (∃ x,D.atKey k (.held z) = .held x) -> ∃ x,(T.foldl (fun D x=>D.put (kL x.1) (.held x.2)) D).atKey k (.held z) = .held x from this T _ isMap_empty ⟨z,rfl⟩
 intro T
 induction T with
 | nil=>exact fun D _ h=>h
 | cons x r ih=>
  intro D hD h
  refine ih _ (hD.put _ _) ?_
  by_cases e : k = kL x.1
  ·subst e
   exact ⟨x.2,atKey_put_same hD (kL_key _) _ _⟩
  ·rw [atKey_put_other e]
   exact h
def ByAt (w : World) (b : Nat) (T : By) : Prop:=w.ownsMap Tryz.prog 47 rB b T.length (datB T)
theorem ByAt.below {w w' : World} {b : Nat} {T : By} (h : ByAt w b T) (hb : Below w.heap.size w w') : ByAt w' b T:=by
 have hlt:=World.ownsMap.lt h
 obtain ⟨es,clock,h1,F,hs,hD⟩:=h
 exact ⟨es,clock,(hb.block b hlt).trans h1,F,hs,hD⟩
theorem zeroMod (w : World) : (zeroValue 47).run Tryz.prog w = .ok (modV (⟨#[]⟩,⟨#[]⟩)) w:=Tryz.zeroValue47 w
set_option maxRecDepth 100000 in
theorem came_any (b : Nat) (T : By) (m : Bm) (w : World) (hm : m.1.size <= maxLen /\ m.2.size <= maxLen) (hT : szT T) (h : ByAt w b T) :
  Calls Tryz.prog 81 #[.map (some b),.agg #[.string m.1,.string m.2]] w fun e w'=>e = .returned (.bool (cameB T m)) /\ Below w.heap.size w w':=by
 have HB:=hid ((Below.refl w.heap.size w).alloc (Nat.le_refl _) (.cells #[.string m.1,.string m.2] 47))
 obtain ⟨v,ps,hrun,hv⟩:=World.ownsMap.look_ok (h.below HB.out) modKey Tryz.underlying114 (zeroMod _) (rB_mod _) (keyOf_mod m hm.1 hm.2)
 rw [datB_has hm.1 hm.2 hT] at hrun
 obtain ⟨x,hx⟩:=datB_held T (kL m) (⟨#[]⟩,⟨#[]⟩)
 rw [hx] at hv
 obtain rfl:=rB_inv hv
 unfold modV at hrun
 clear h hv hx hm hT
 go_enter Tryz.func81,Tryz.ntmps81
 go_wp2_with fail
 go_ret
 exact ⟨rfl,HB.out.alloc HB.out.size _⟩
end Ve
end Go.Proofs.YtjbmjnbkibmkpaaGreatDoor


namespace Go.Proofs.YtjbmjnbkibmkpaaGreatDoor
open Go.RowKit Go.Maps
namespace Ve
structure Wk (w0 W : World) (bb ob mb : Nat) (T : By) : Prop where
 bl : Below w0.heap.size w0 W
 sz : szT T
 b1 : w0.heap.size <= bb
 b2 : w0.heap.size <= ob
 b3 : w0.heap.size <= mb
 bc : W.heap[bb]? = some (.cells #[.map (some mb)] 114 (0,0))
 mp : ByAt W mb T
 oc : ∃ ov,W.heap[ob]? = some (.cells #[ov] 23 (0,0)) /\ W.ownsRow w0.heap.size 47 2 ov T.length (flatM (whoT T))
theorem Wk.below {w0 W W' : World} {bb ob mb : Nat} {T : By} (h : Wk w0 W bb ob mb T) (hb : Below W.heap.size W W') : Wk w0 W' bb ob mb T:=by
 obtain ⟨ov,h1,h2⟩:=h.oc
 exact ⟨h.bl.trans (hb.mono h.bl.size),h.sz,h.b1,h.b2,h.b3,(hb.block _ (lt_of_blk h.bc)).trans h.bc,h.mp.below hb,ov,(hb.block _ (lt_of_blk h1)).trans h1,owns_below h2 hb⟩
theorem flatM_who (T : By) (m f : Bm) : flatM (whoT (T ++ [(m,f)])) = flatM (whoT T) ++ [.string m.1,.string m.2]:=by
 rw [whoT_app,flatM_app]; simp [flatM]
theorem ByAt.block {w : World} {b : Nat} {T : By} (h : ByAt w b T) : ∃ es clock,w.heap[b]? = some (.map es clock):=by
 obtain ⟨es,clock,h1,_⟩:=h
 exact ⟨es,clock,h1⟩
theorem ByAt.ne {w : World} {b g : Nat} {T : By} {cs : Array Value} {t : TypeId} {fr : Nat × Nat} (h : ByAt w b T) (hg : w.heap[g]? = some (.cells cs t fr)) : g ≠ b:=fun e=>by
 obtain ⟨es,clock,h1⟩:=h.block
 subst e
 rw [h1] at hg
 cases hg
theorem ByAt.far {w w2 : World} {b B n : Nat} {T : By} {v : Value} {e : TypeId} {xs : List Value} (h : ByAt w b T) (hg : w.grownBy w2 (some b)) (ho : w.ownsRow B e 2 v n xs) : w2.ownsRow B e 2 v n xs:=
 owns_far ho hg fun g hv=>by
  obtain ⟨hl,⟨h1,_⟩ | ⟨g',cap,cur,e1,e2,e3,_⟩⟩:=ho
  ·rw [h1] at hv; cases hv
  ·rw [e1] at hv
   have : g' = g:=by simpa [Value.ownBlock] using hv
   subst this
   intro e
   exact h.ne e3 (by simpa using e.symm)
theorem Wk.more {w0 w1 w2 w3 : World} {bb ob mb : Nat} {T : By} {m f : Bm} {ov v' : Value} {o : Obj} (h : Wk w0 w1 bb ob mb T) (hm : m.1.size <= maxLen /\ m.2.size <= maxLen) (o1 : w1.heap[ob]? = some (.cells #[ov] 23 (0,0))) (o2 : w1.ownsRow w0.heap.size 47 2 ov T.length (flatM (whoT T)))
  (hown : w2.ownsMap Tryz.prog 47 rB mb (T.length + 1) ((datB T).put (kL m) (.held f))) (hg : w1.grownBy w2 (some mb)) (hown3 : w3.ownsRow w0.heap.size 47 2 v' (T.length + 1) (flatM (whoT T) ++ [.string m.1,.string m.2])) (hg3 : (w2.alloc o).grownBy w3 ov.ownBlock) :
  Wk w0 (w3.setCell ⟨ob,0,none⟩ v') bb ob mb (T ++ [(m,f)]):=by
 have hs1:=h.bl.size
 have l1:=lt_of_blk h.bc
 have l2:=lt_of_blk o1
 obtain ⟨es,clock,hm1⟩:=ByAt.block h.mp
 have l3:=lt_of_blk hm1
 have n1 : bb ≠ mb:=h.mp.ne h.bc
 have n2 : ob ≠ mb:=h.mp.ne o1
 have n3 : bb ≠ ob:=fun e=>by
  subst e
  have:=h.bc.symm.trans o1
  simp at this
 have o2':=h.mp.far hg o2
 have r1 : ov.ownBlock ≠ some bb:=own_ne2 o2 h.bc (by decide)
 have r2 : ov.ownBlock ≠ some ob:=own_ne2 o2 o1 (by decide)
 have r3 : ov.ownBlock ≠ some mb:=fun e=>by
  obtain ⟨hl,⟨h1,_⟩ | ⟨g',cap,cur,e1,e2,e3,_⟩⟩:=o2
  ·rw [h1] at e; cases e
  ·rw [e1] at e
   have : g' = mb:=by simpa [Value.ownBlock] using e
   exact h.mp.ne e3 this
 have sz2:=hg.size
 have step : ∀ b,b < w1.heap.size -> b ≠ mb -> ov.ownBlock ≠ some b -> w3.heap[b]? = w1.heap[b]?:=fun b hb hne hr=>by
  rw [hg3.block b (by simp; omega) (fun e=>hr e.symm),((Below.refl w2.heap.size w2).alloc (Nat.le_refl _) o).block b (by omega),hg.block b hb (by simp [hne])]
 have q1:=(step bb l1 n1 r1).trans h.bc
 have q2:=(step ob l2 n2 r2).trans o1
 have q3 : w3.heap[mb]? = w2.heap[mb]?:=by
  rw [hg3.block mb (by simp; omega) (fun e=>r3 e.symm),((Below.refl w2.heap.size w2).alloc (Nat.le_refl _) o).block mb (by omega)]
 have b2 : Below w0.heap.size w0 w2:=h.bl.grown hg hs1 (fun k hk=>by cases hk; exact h.b3)
 have b3 : Below w0.heap.size w0 w3:=(b2.alloc b2.size o).grown hg3 (by simp; have:=b2.size; omega) (fun k hk=>(o2.lt k hk).1)
 refine ⟨b3.setCell (p:=⟨ob,0,none⟩) h.b2 v',?_,h.b1,h.b2,h.b3,keep_set q1 n3,?_,v',?_,?_⟩
 ·intro x hx
  rcases List.mem_append.1 hx with hx | hx
  ·exact h.sz x hx
  ·simp at hx; subst hx; exact hm
 ·unfold ByAt
  rw [datB_app,List.length_append]
  obtain ⟨es2,clock2,h1,F,hs,hD⟩:=hown
  exact ⟨es2,clock2,by rw [Below.heap_setCell _ _ _ _ (Ne.symm n2),q3]; exact h1,F,hs,hD⟩
 ·have:=set_block (o:=0) (x:=v') q2
  simpa using this
 ·rw [flatM_who,List.length_append]
  exact owns_set hown3 (own_ne2 hown3 q2 (by decide))
set_option maxRecDepth 100000 in
theorem come_any (w0 W : World) (bb ob mb : Nat) (T : By) (m f : Bm) (hm : m.1.size <= maxLen /\ m.2.size <= maxLen) (hl : T.length <= 1000) (h : Wk w0 W bb ob mb T) :
  Calls Tryz.prog 126 #[.agg #[.string m.1,.string m.2],.agg #[.string f.1,.string f.2],.pointer (some ⟨bb,0,none⟩),.pointer (some ⟨ob,0,none⟩)] W fun e w'=>e = .returned (.tuple #[]) /\ Wk w0 w' bb ob mb (comeT T m f):=by
 obtain ⟨i0,hi0,hz0,hz1,hz2⟩:=info_parts infoMod
 have HBa:=hid (((Below.refl W.heap.size W).alloc (Nat.le_refl _) (.cells #[.string m.1,.string m.2] 47)).alloc (by simp) (.cells #[.string f.1,.string f.2] 47))
 have HW:=hid (h.below HBa.out)
 have HC:=hid (came_any mb T m _ hm HW.out.sz HW.out.mp)
 have c0 : ((W.alloc (.cells #[.string m.1,.string m.2] 47)).alloc (.cells #[.string f.1,.string f.2] 47)).cell? ⟨bb,0,none⟩ = some (.map (some mb)):=by rw [Lib.cell_of_heap HW.out.bc]; rfl
 have HM:=hid hm
 clear h hm
 go_enter Tryz.func126,Tryz.ntmps126
 go_wp2_with fail
 refine HC.out.mono ?_
 rintro e w1 ⟨rfl,hb⟩
 have HW1:=hid (HW.out.below hb)
 have e0 : w1.heap[W.heap.size]? = some (.cells #[.string m.1,.string m.2] 47 (0,0)):=by
  rw [hb.block _ (by simp; omega)]; exact heap_old _ _ (heap_new W _)
 have e1 : w1.heap[W.heap.size + 1]? = some (.cells #[.string f.1,.string f.2] 47 (0,0)):=by
  rw [hb.block _ (by simp)]
  have:=heap_new (W.alloc (.cells #[.string m.1,.string m.2] 47)) (.cells #[.string f.1,.string f.2] 47)
  rw [show (W.alloc (.cells #[.string m.1,.string m.2] 47)).heap.size = W.heap.size + 1 by simp] at this
  exact this
 clear hb
 cases hc : cameB T m with
 | true=>
  go_wp2_with fail
  go_end0
  exact ⟨rfl,by rw [come_yes hc]; exact HW1.out⟩
 | false=>
  have HCN:=hid hc
  obtain ⟨ov,o1,o2⟩:=HW1.out.oc
  have HO1:=hid o1
  have HO2:=hid o2
  have k0 : w1.cell? ⟨bb,0,none⟩ = some (.map (some mb)):=by rw [Lib.cell_of_heap HW1.out.bc]; rfl
  have k1 : w1.cell? ⟨W.heap.size,0,none⟩ = some (.string m.1):=by rw [Lib.cell_of_heap e0]; rfl
  have k2 : w1.cell? ⟨W.heap.size,1,none⟩ = some (.string m.2):=by rw [Lib.cell_of_heap e0]; rfl
  have k3 : w1.cell? ⟨W.heap.size + 1,0,none⟩ = some (.string f.1):=by rw [Lib.cell_of_heap e1]; rfl
  have k4 : w1.cell? ⟨W.heap.size + 1,1,none⟩ = some (.string f.2):=by rw [Lib.cell_of_heap e1]; rfl
  have HE0:=hid e0
  clear o1 o2 e0 e1 hc c0
  go_wp2_with (at_mapUpdate; refine wpList_mapUpdate_own _ rfl _ _ _ 114 rfl 47 47 modKey Tryz.underlying114 rB mb T.length (datB T) rfl HW1.out.mp (by unfold maxLen; omega) (modV m) (modV f) (kL m) rfl rfl (keyOf_mod m HM.out.1 HM.out.2) (.held f) [] (rB_mod f) ?_)
  intro w2 hown hgrow
  have HOWN:=hid hown
  have HGR:=hid hgrow
  have n1:=HW1.out.mp.ne HE0.out
  have n2:=HW1.out.mp.ne HO1.out
  have j0 : w2.heap[W.heap.size]? = some (.cells #[.string m.1,.string m.2] 47 (0,0)):=(hgrow.block _ (lt_of_blk HE0.out) (by simp [n1])).trans HE0.out
  have j1 : w2.heap[ob]? = some (.cells #[ov] 23 (0,0)):=(hgrow.block _ (lt_of_blk HO1.out) (by simp [n2])).trans HO1.out
  have HOV:=hid (HW1.out.mp.far hgrow HO2.out)
  obtain ⟨oa,oc,hov⟩:=own_slN HO2.out
  subst hov
  have i1 : w2.cell? ⟨W.heap.size,0,none⟩ = some (.string m.1):=by rw [Lib.cell_of_heap j0]; rfl
  have i2 : w2.cell? ⟨W.heap.size,1,none⟩ = some (.string m.2):=by rw [Lib.cell_of_heap j0]; rfl
  have i3 : w2.cell? ⟨ob,0,none⟩ = some (.slice oa T.length oc):=by rw [Lib.cell_of_heap j1]; rfl
  have HJ1:=hid j1
  have HNE:=hid (own_ne2 HOV.out j1 (by decide))
  have hsz:=HW1.out.bl.size
  have hsz2:=hgrow.size
  clear hown hgrow j0 j1 k0 k1 k2 k3 k4 n1 n2
  go_wp2_with (at_builtin; refine wpList_append_own _ rfl _ _ 23 rfl w0.heap.size 47 i0 _ 2 32 Tryz.underlying23 hi0 hz0 hz1 hz2 rfl (by decide) _ _ _ rfl (HOV.out.alloc _) ⟨w2.heap.size,0,none⟩ 1 1 [.string m.1,.string m.2] rfl rfl ?c1 ?c2 ?c3 ?c4 ?c5 ?_)
  case c1=>exact World.news_of_block (cs:=#[.string m.1,.string m.2]) (t:=47) (fr:=(0,0)) (heap_alloc_new w2 _)
  case c2=>
   intro u hu
   simp at hu
   rcases hu with rfl | rfl <;> rfl
  case c3=>unfold maxLen; omega
  case c4=>omega
  case c5=>simp; omega
  intro v' w3 hown3 hgrow3 _
  have HF:=hid (HW1.out.more HM.out HO1.out HO2.out HOWN.out HGR.out hown3 hgrow3)
  have q2 : w3.heap[ob]? = some (.cells #[.slice oa T.length oc] 23 (0,0)):=by
   rw [hgrow3.block ob (by have:=lt_of_blk HJ1.out; simp; omega) (fun e=>HNE.out e.symm),((Below.refl w2.heap.size w2).alloc (Nat.le_refl _) _).block ob (lt_of_blk HJ1.out)]
   exact HJ1.out
  have i4 : w3.cell? ⟨ob,0,none⟩ = some (.slice oa T.length oc):=by rw [Lib.cell_of_heap q2]; rfl
  have i5 : w3.frozen? ⟨ob,0,none⟩ = false:=by simp [World.frozen?,q2]
  obtain ⟨va,vc,hv⟩:=own_slN hown3
  subst hv
  clear hown3 hgrow3 q2 i1 i2 i3
  go_wp2_with fail
  go_end0
  exact ⟨rfl,by rw [come_no HCN.out]; exact HF.out⟩
end Ve
end Go.Proofs.YtjbmjnbkibmkpaaGreatDoor
