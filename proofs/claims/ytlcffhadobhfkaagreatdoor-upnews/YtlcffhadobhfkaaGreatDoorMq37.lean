/-
  IxQ FoA GwA MlP GtX BxP MtP
-/
import Derived.Test.YtlcffhadobhfkaaGreatDoorMq6
import Derived.Test.YtlcffhadobhfkaaGreatDoorMq9
import Derived.Test.YtlcffhadobhfkaaGreatDoorMq17
import Derived.Test.YtlcffhadobhfkaaGreatDoorMq20
import Derived.Test.YtlcffhadobhfkaaGreatDoorMq23
import Derived.Test.YtlcffhadobhfkaaGreatDoorMq3
import Derived.Test.YtlcffhadobhfkaaGreatDoorMq5
import Derived.Test.YtlcffhadobhfkaaGreatDoorMq11
import Derived.Test.YtlcffhadobhfkaaGreatDoorMq2
import Derived.Test.YtlcffhadobhfkaaGreatDoorMq18
import Derived.Test.YtlcffhadobhfkaaGreatDoorMq19
import Derived.Test.YtlcffhadobhfkaaGreatDoorMq22
import Derived.Test.YtlcffhadobhfkaaGreatDoorMq34
import Derived.Test.YtlcffhadobhfkaaGreatDoorMq45
namespace Go.Proofs.YtlcffhadobhfkaaGreatDoor
open Go.RowKit
namespace Ve
theorem okI_iff {L : List Ent} (h : okI L = true) : (L.length <= 30 \/ L.length = 101) /\ ∀ e,e ∈ L -> e.1.1.size <= 70 /\ e.1.2.size <= 60 /\ e.2.1.length <= 25 /\ (∀ m,m ∈ e.2.1 -> m.1.size <= 70 /\ m.2.size <= 60) /\ e.2.2.1.length <= 15 /\ ∀ x,x ∈ e.2.2.1 -> x.size <= 70:=by
  unfold okI at h
  rw [Bool.and_eq_true] at h
  obtain ⟨h1,h2⟩:=h
  refine ⟨by simpa [okN] using h1,fun e he=>?_⟩
  have h3:=List.all_eq_true.1 h2 e he
  unfold okE at h3
  simp only [Bool.and_eq_true,decide_eq_true_eq] at h3
  obtain ⟨⟨⟨⟨a,b⟩,c⟩,d⟩,f⟩:=h3
  obtain ⟨c1,c2⟩:=okL_iff c
  refine ⟨a,b,c1,c2,d,fun x hx=>?_⟩
  have:=List.all_eq_true.1 f x hx
  simpa using this
theorem okI_sh {L : List Ent} (h : okI L = true) : ∀ e,e ∈ L -> ShE e:=fun e he=>by
  obtain ⟨a,b,c,d,f,g⟩:=(okI_iff h).2 e he
  exact ⟨by omega,by omega,by omega,fun m hm=>⟨by have:=(d m hm).1; omega,by have:=(d m hm).2; omega⟩,by omega,fun x hx=>by have:=g x hx; omega⟩
theorem okI_fits {L : List Ent} (h : okI L = true) : ∀ e,e ∈ L -> Fits e:=fun e he=>by
  obtain ⟨a,b,c,d,f,g⟩:=(okI_iff h).2 e he
  exact ⟨by omega,by omega⟩
open Go.Maps
def eqM (x m : Bm) : Bool:=decide (x.1 = m.1 /\ x.2 = m.2)
theorem eqM_run (x m : Bm) (W : World) : (binOp .eql 25 (.agg #[.string x.1,.string x.2]) (.agg #[.string m.1,.string m.2])).run Tryz.prog W = .ok (.bool (eqM x m)) W:=modEql x.1 x.2 m.1 m.2 W
set_option maxRecDepth 100000 in
set_option maxHeartbeats 1000000 in
theorem findOf_some (L : List Raw) (m : Bm) (b o c : Nat) (w : World) (hL : L.length ≤ 1000000)
    (hc : ∀ j (h : j < L.length),w.cell? ⟨b,o + j * 5,none⟩ = some (.string L[j].1.1) /\ w.cell? ⟨b,o + j * 5 + 1,none⟩ = some (.string L[j].1.2)) :
    Calls Tryz.prog 25 #[.slice (some ⟨b,o,none⟩) L.length c,.agg #[.string m.1,.string m.2]] w fun e w'=>e = .returned (.int .i64 (idxOf (isM m) L)) /\ Below w.heap.size w w':=by
  have HC:=hid hc
  have hgd:=modGuard
  generalize hr : idxOf (isM m) L = r
  have HR:=hid hr
  have HB0:=hid ((Below.refl w.heap.size w).alloc (Nat.le_refl _) (.cells #[.string m.1,.string m.2] 25))
  have HE0:=hid (heap_new w (.cells #[.string m.1,.string m.2] 25))
  clear hc hr
  go_enter Tryz.func25,Tryz.ntmps25
  go_wp2_with fail
  generalize hw1 : w.alloc (.cells #[.string m.1,.string m.2] 25) = w1 at *
  clear hw1
  go_loopw [5] (fun i wr=>∃ k : Nat,k <= L.length /\ i = .int .i64 k /\ Hid (∀ j (h : j < L.length),j < k -> isM m L[j] = false) /\ Hid (Below w1.heap.size w1 wr)) (fun i _=>L.length - (intOf i).toNat)
  case atStart=>exact ⟨0,Nat.zero_le _,rfl,hid (fun j _ hj=>absurd hj (by omega)),hid (Below.refl _ _)⟩
  case round=>
    obtain ⟨k,hk,rfl,HA,HB⟩:=hrel
    have HBw:=hid (HB0.out.trans (HB.out.mono HB0.out.size))
    by_cases hlt : k < L.length
    · have x0:=cell_below HBw.out (HC.out k hlt).1
      have x1:=cell_below HBw.out (HC.out k hlt).2
      have hE : wr.heap[w.heap.size]? = some (.cells #[.string m.1,.string m.2] 25 (0,0)):=(HB.out.block _ (lt_of_blk HE0.out)).trans HE0.out
      have y0 : wr.cell? ⟨w.heap.size,0,none⟩ = some (.string m.1):=by rw [Lib.cell_of_heap hE]; rfl
      have y1 : wr.cell? ⟨w.heap.size,1,none⟩ = some (.string m.2):=by rw [Lib.cell_of_heap hE]; rfl
      have HF:=hid (fun h=>idx_hit hlt HA.out h)
      have HN:=hid (fun h=>idx_next hlt HA.out h)
      have HEQ:=hid (show isM m L[k] = eqM L[k].1 m from rfl)
      have hkI : (k : Int) < (L.length : Int):=by omega
      have HLT:=hid hlt
      clear hE
      generalize L[k] = x at *
      clear hlt
      have heq:=fun W=>eqM_run x.1 m W
      cases he : eqM x.1 m with
      | false=>
        rw [he] at heq HEQ
        have HN2:=hid (HN.out HEQ.out)
        clear HF HN HEQ he
        go_wp2_with fail
        go_quiet (fail)
        go_wp2_with fail
        go_roundw
        case rel=>first | exact ⟨k + 1,HLT.out,nr_idx k,HN2,hid (below_drawn_of HB.out _)⟩ | exact ⟨k + 1,HLT.out,nx_idx HLT.out hL,HN2,hid (below_drawn_of HB.out _)⟩
        case measure=>first | exact nr_meas HLT.out | exact nx_meas HLT.out hL
      | true=>
        rw [he] at heq HEQ
        have HF2:=hid (HF.out HEQ.out)
        clear HF HN HEQ he
        go_wp2_with fail
        go_quiet (fail)
        go_wp2_with fail
        go_ret
        exact ⟨by rw [<- HR.out,HF2.out]; rfl,below_drawn_of HBw.out _⟩
    · have HF:=hid (show idxOf (isM m) L = -1 by unfold idxOf; rw [fstE_none (idxE_zero (Nat.le_refl _) (fun j hj _=>HA.out j hj (by omega)))])
      have hkI : ¬ (k : Int) < (L.length : Int):=by omega
      clear hlt
      go_wp2_with fail
      go_ret
      exact ⟨by rw [<- HR.out,HF.out]; rfl,HBw.out⟩
theorem findOf_any (L : List Raw) (m : Bm) (v : Value) (w : World) (hL : L.length <= 1000000) (h0 : 0 < L.length) (hv : EsAt w v L) :
    Calls Tryz.prog 25 #[v,.agg #[.string m.1,.string m.2]] w fun e w'=>e = .returned (.int .i64 (idxOf (isM m) L)) /\ Below w.heap.size w w':=by
  obtain ⟨a,c,rfl,_,_,h⟩:=hv
  obtain ⟨b,o,rfl,h2⟩:=h (fun e=>by rw [e] at h0; exact absurd h0 (Nat.lt_irrefl _))
  exact findOf_some L m b o c w hL (fun j hj=>⟨(h2 j hj).1,(h2 j hj).2.1⟩)
theorem chkG_in {w : World} {v : Value} {Q : List Raw} {L : List Ent} {R : List Bm} (I : Ixs w v Q L) (hc : (chk Q L).1 = 0) (h : ∀ m,m ∈ R -> m ∈ univ L) : (chkG Q L R).1 = 0:=by
  rw [chkG_ok hc]
  have : fstE (nonE Q R) R.length = none:=fstE_none fun j hj=>by
    rw [nonE_at hj]
    unfold nonW
    obtain ⟨k,hk⟩:=(found_iff I R[j]).1 (h _ (List.getElem_mem hj))
    rw [hk,if_neg (by omega)]
  exact codeE_none this
theorem Bt.ri {Q : List Raw} {L : List Ent} {roots E : List Bm} (h : Bt Q L roots E) : rising E:=by
  obtain ⟨T,c,j,_⟩:=h.c
  exact j.ri
theorem Bt.len {w : World} {v : Value} {Q : List Raw} {L : List Ent} {a E : List Bm} (h : Bt Q L a E) (I : Ixs w v Q L) : E.length <= L.length:=by
  obtain ⟨T,_,_,hl⟩:=h.c
  exact Nat.le_trans hl (goM_lenJ I T)
def rF (Q : List Raw) (L : List Ent) (roots : List Bm) : Nat × Option Nat:=if (chkG Q L roots).1 = 0 then (0,none) else chkG Q L roots
theorem rF_good {Q : List Raw} {L : List Ent} {roots : List Bm} (h : (chkG Q L roots).1 = 0) : rF Q L roots = (0,none):=if_pos h
theorem rF_bad {Q : List Raw} {L : List Ent} {roots : List Bm} (h : ¬ (chkG Q L roots).1 = 0) : rF Q L roots = chkG Q L roots:=if_neg h
open Classical in
noncomputable def rX (Q : List Raw) (L : List Ent) (roots : List Bm) : List Bm:=if (chkG Q L roots).1 = 0 then (univ L).filter (fun m=>decide (Rch (reqQ Q L) roots m)) else []
theorem rX_bad {Q : List Raw} {L : List Ent} {roots : List Bm} (h : ¬ (chkG Q L roots).1 = 0) : rX Q L roots = []:=if_neg h
theorem rX_go {w : World} {v : Value} {Q : List Raw} {L : List Ent} {roots : List Bm} {T : By} (I : Ixs w v Q L) (h : (chkG Q L roots).1 = 0) (hT : Came (reqQ Q L) (univ L) roots T) : goM T Q = rX Q L roots:=by
  unfold rX
  rw [if_pos h,<- univ_eq I]
  unfold goM goQ
  rw [List.filter_map]
  congr 1
  apply List.filter_congr
  intro r _
  show cameB T r.1 = _
  simp only [Function.comp]
  by_cases hr : Rch (reqQ Q L) roots r.1
  · rw [(hT.cameB _).2 hr]; simp [hr]
  · cases hc : cameB T r.1
    · simp [hr]
    · exact absurd ((hT.cameB _).1 hc) hr
theorem rX_len {Q : List Raw} {L : List Ent} {roots : List Bm} : (rX Q L roots).length <= L.length:=by
  unfold rX
  split
  · refine Nat.le_trans (List.length_filter_le _ _) ?_
    rw [univ_len]; exact Nat.le_refl _
  · simp
theorem rX_in {Q : List Raw} {L : List Ent} {roots : List Bm} {m : Bm} (h : m ∈ rX Q L roots) : (chkG Q L roots).1 = 0 /\ m ∈ univ L:=by
  unfold rX at h
  by_cases hc : (chkG Q L roots).1 = 0
  · rw [if_pos hc] at h
    exact ⟨hc,(List.mem_filter.1 h).1⟩
  · rw [if_neg hc] at h; simp at h
structure Sl (L : List Ent) (E : List Bm) : Prop where
  ri : rising E
  un : ∀ m,m ∈ E -> m ∈ univ L
def nextB (X : List Bm) (i : Nat) (p : ByteArray) : Bool:=match X[i + 1]? with
  | some y=>decide (y.1 = p)
  | none=>false
def lastN (X : List Bm) : Nat → List Bm
  | 0=>[]
  | i + 1=>lastN X i ++ match X[i]? with
    | some x=>if nextB X i x.1 then [] else [x]
    | none=>[]
noncomputable def bX (Q : List Raw) (L : List Ent) (roots : List Bm) : List Bm:=lastN (rX Q L roots) (rX Q L roots).length
theorem Mr.below {w0 W W' : World} {v : Value} {D : List Bm} (h : Mr w0 W v D) (hb : Below W.heap.size W W') : Mr w0 W' v D:=by
  obtain ⟨h1,a,cap,rfl,hc,hk⟩:=h
  refine ⟨h1.trans (hb.mono h1.size),a,cap,rfl,hc,?_⟩
  rcases hk with hk | ⟨g,rfl,hM⟩
  · exact Or.inl hk
  · exact Or.inr ⟨g,rfl,hM.below hb⟩
theorem mr_nil0 {w w' : World} (h : Below w.heap.size w w') : Mr w w' (.slice none 0 0) []:=⟨h,none,0,rfl,Nat.le_refl _,Or.inl ⟨rfl,fun _=>rfl⟩⟩
end Ve
end Go.Proofs.YtlcffhadobhfkaaGreatDoor
