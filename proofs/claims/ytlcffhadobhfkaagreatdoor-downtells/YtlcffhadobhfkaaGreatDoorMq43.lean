/-
  GrA GtA BwA RtA ChS RtC GtX RmB RmA GtC GtE
-/
import Derived.Test.YtlcffhadobhfkaaGreatDoorMq2
import Derived.Test.YtlcffhadobhfkaaGreatDoorMq6
import Derived.Test.YtlcffhadobhfkaaGreatDoorMq5
import Derived.Test.YtlcffhadobhfkaaGreatDoorMq39
import Derived.Test.YtlcffhadobhfkaaGreatDoorMq11
import Derived.Test.YtlcffhadobhfkaaGreatDoorMq9
import Derived.Test.YtlcffhadobhfkaaGreatDoorMq19
import Derived.Test.YtlcffhadobhfkaaGreatDoorMq20
import Derived.Test.YtlcffhadobhfkaaGreatDoorMq3
import Derived.Test.YtlcffhadobhfkaaGreatDoorMq23
import Derived.Test.YtlcffhadobhfkaaGreatDoorMq37
import Derived.Test.YtlcffhadobhfkaaGreatDoorMq18
import Derived.Test.YtlcffhadobhfkaaGreatDoorMq22
import Derived.Test.YtlcffhadobhfkaaGreatDoorMq45
import Derived.Test.YtlcffhadobhfkaaGreatDoorMq16
import Derived.Test.YtlcffhadobhfkaaGreatDoorMq17
import Derived.Test.YtlcffhadobhfkaaGreatDoorMq34
namespace Go.Proofs.YtlcffhadobhfkaaGreatDoor
namespace Ve
theorem Wn.rch {req : Bm -> List Bm} {roots : List Bm} {n : Nat} {m : Bm} (h : Wn req roots n m) : Rch req roots m:=by
  induction h with
  | root hr=>exact .root hr
  | step _ hr ih=>exact .step ih hr
def unm : List Bool -> Nat
  | []=>0
  | true :: l=>unm l
  | false :: l=>unm l + 1
theorem unm_set : ∀ (O : List Bool) (a : Nat) (h : a < O.length),O[a] = false -> unm (O.set a true) + 1 = unm O
  | [],_,h,_=>absurd h (Nat.not_lt_zero _)
  | b :: O,0,_,e=>by
    have : b = false:=e
    subst this
    rfl
  | b :: O, a + 1, h, e => by
    have ih:=unm_set O a (by simpa using h) (by simpa using e)
    rw [List.set_cons_succ]
    cases b
    · show unm (O.set a true) + 1 + 1 = unm O + 1
      omega
    · exact ih
theorem rch_wn {req : Bm -> List Bm} {roots : List Bm} {m : Bm} (h : Rch req roots m) : ∃ n,Wn req roots n m:=by
  induction h with
  | root hr=>exact ⟨1,.root hr⟩
  | step _ hr ih=>obtain ⟨n,hn⟩:=ih; exact ⟨n + 1,.step hn hr⟩
theorem wn_dst {req : Bm -> List Bm} {roots : List Bm} {m : Bm} : ∀ (n : Nat),Wn req roots n m -> ∃ d,Dst req roots m d:=fun n=>by
  induction n using Nat.strongRecOn with
  | ind n ih=>
    intro h
    by_cases hs : ∃ k,k < n /\ Wn req roots k m
    · obtain ⟨k,hk,hw⟩:=hs
      exact ih k hk hw
    · exact ⟨n,h,fun k hk=>Nat.le_of_not_lt fun hlt=>hs ⟨k,hlt,hk⟩⟩
theorem Dst.row {req : Bm → List Bm} {roots : List Bm} : ∀ {d : Nat} {m : Bm}, Dst req roots m d → ∃ Y : List Bm, Y.length = d ∧ Y.Nodup ∧ ∀ y, y ∈ Y → ∃ k, k ≤ d ∧ Dst req roots y k
  | 0,m,h=>absurd h.1.pos (by omega)
  | d + 1, m, h => by
    have hs:=h
    obtain ⟨hw,hm⟩:=h
    cases hw with
    | root hr=>exact ⟨[m],rfl,by simp,fun y hy=>by rw [List.mem_singleton] at hy; subst hy; exact ⟨_,Nat.le_refl _,hs⟩⟩
    | @step _ p _ hp hr=>
      have hd : Dst req roots p d:=⟨hp,fun k hk=>by have:=hm _ (.step hk hr); omega⟩
      obtain ⟨Y,h1,h2,h3⟩:=Dst.row hd
      refine ⟨m :: Y,by simp [h1],List.nodup_cons.2 ⟨fun hmem=>?_,h2⟩,fun y hy=>?_⟩
      · obtain ⟨k,hk,hk2⟩:=h3 m hmem
        have:=hk2.one hs
        omega
      · rcases List.mem_cons.1 hy with rfl | hy
        · exact ⟨_,Nat.le_refl _,hs⟩
        · obtain ⟨k,hk,hk2⟩:=h3 y hy
          exact ⟨k,by omega,hk2⟩
theorem Dst.le {req : Bm -> List Bm} {roots U : List Bm} (hU : ∀ m,Rch req roots m -> m ∈ U) {d : Nat} {m : Bm} (h : Dst req roots m d) : d <= U.length:=by
  obtain ⟨Y,h1,h2,h3⟩:=h.row
  rw [<- h1]
  exact nd_len Y U h2 fun y hy=>by
    obtain ⟨_,_,hk⟩:=h3 y hy
    exact hU y hk.1.rch
theorem Fr.next {req : Bm -> List Bm} {U roots : List Bm} {n i : Nat} {F : List Nat} (h : Fr req U roots n i F) (hd : ∀ (hi : i < U.length) (hi' : i < F.length),F[i] = n -> ∀ m,m ∈ req U[i] -> ∃ a,∃ h : a < U.length,∃ h' : a < F.length,U[a] = m /\ F[a] ≠ 0) : Fr req U roots n (i + 1) F:=
  ⟨h.ln,h.so,h.bd,h.lo,fun j hj hj' hji e m hm=>by
    rcases Nat.lt_or_ge j i with h1 | h1
    · exact h.dn j hj hj' h1 e m hm
    · have : j = i:=by omega
      subst this
      exact hd hj hj' e m hm⟩
theorem Fr.zero {req : Bm -> List Bm} {U roots : List Bm} {n i : Nat} {F : List Nat} (h : Fr req U roots n i F) (hn : U.length <= n) (hU : ∀ m,Rch req roots m -> m ∈ U) {j : Nat} (hj : j < U.length) (hj' : j < F.length) : F[j] = 0 ↔ ¬ Rch req roots U[j]:=by
  constructor
  · intro e hR
    obtain ⟨k,hk⟩:=rch_wn hR
    obtain ⟨d,hd⟩:=wn_dst k hk
    exact (h.lo d j hj hj' (Nat.le_trans (hd.le hU) hn) hd.1).1 e
  · intro hR
    by_cases e : F[j] = 0
    · exact e
    · exact absurd (h.so j hj hj' e).rch hR
open Go.RowKit Go.Maps
theorem infoBool : (Tryz.prog.info? 4).map (fun i=>(i.zero,i.size,i.bytes)) = some (some (.bool false),1,1):=by kernel_rfl
theorem bwc_set (O : List Bool) (a : Nat) : (bwc O).setIfInBounds a (.bool true) = bwc (O.set a true):=by
  unfold bwc
  rw [List.setIfInBounds_toArray,List.map_set]
theorem bwc_at {W : World} {g : Nat} {O : List Bool} (h : W.heap[g]? = some (.cells (bwc O) 4 (0,0))) {a : Nat} (ha : a < O.length) : W.cell? ⟨g,a,none⟩ = some (.bool O[a]):=by
  rw [Lib.cell_of_heap h]
  simp [bwc,ha]
theorem made_bools (n : Nat) : madeCells (Value.bool false).cells n = bwc (List.replicate n false):=by
  unfold madeCells bwc
  simp [Value.cells]
  apply Array.ext
  · simp
  · intro i h1 h2
    simp [Nat.mod_one]
theorem make_bools (n : Nat) (w : World) (hn : n <= 1000000) : (Instr.makeSlice 68 (.int .i64 (n : Int)) (.int .i64 (n : Int))).run Tryz.prog w = .ok (.slice (some ⟨w.heap.size,0,none⟩) n n) (w.alloc (.cells (bwc (List.replicate n false)) 4)):=by
  obtain ⟨i0,hi,hz0,hz1,hz2⟩:=info_parts infoBool
  have h:=run_makeSlice (P:=Tryz.prog) w 68 4 i0 (.bool false) Tryz.underlying68 hi hz0 .i64 .i64 (n : Int) (n : Int) (by omega) (by omega) (by rw [hz1]; simp; omega) (by rw [hz2]; omega) (by omega)
  rw [hz1] at h
  simp only [Int.toNat_natCast,Nat.mul_one] at h
  rw [made_bools] at h
  exact h
theorem es_all {W : World} {b o n c : Nat} {Q : List Raw} (h : EsAt W (.slice (some ⟨b,o,none⟩) n c) Q) {k : Nat} (hk : k < Q.length) : slR Q[k] /\ W.cell? ⟨b,o + k * 5,none⟩ = some (.string Q[k].1.1) /\ W.cell? ⟨b,o + k * 5 + 1,none⟩ = some (.string Q[k].1.2) /\ W.cell? ⟨b,o + k * 5 + 2,none⟩ = some Q[k].2.1 /\ W.cell? ⟨b,o + k * 5 + 3,none⟩ = some Q[k].2.2.1 /\ W.cell? ⟨b,o + k * 5 + 4,none⟩ = some (.bool Q[k].2.2.2):=by
  obtain ⟨a',c',e,_,hs,h⟩:=h
  injection e with e1 e2 e3
  subst e1
  obtain ⟨b',o',e4,h4⟩:=h (by intro h0; rw [h0] at hk; simp at hk)
  injection e4 with e4
  injection e4 with e5 e6
  subst e5 e6
  exact ⟨hs _ (List.getElem_mem hk),h4 k hk⟩
theorem isM_same {Q Q' : List Raw} (h : Q.map (fun r => r.1) = Q'.map (fun r => r.1)) (m : Bm) : idxOf (isM m) Q = idxOf (isM m) Q' := by
  have hl : Q.length = Q'.length:=by have:=congrArg List.length h; simpa using this
  have hf : idxE (isM m) Q = idxE (isM m) Q':=funext fun i=>by
    have hi:=congrArg (fun X : List Bm=>X[i]?) h
    simp only [List.getElem?_map] at hi
    unfold idxE
    cases h1 : Q[i]? with
    | none=>
      rw [h1] at hi
      cases h2 : Q'[i]? with
      | none=>rfl
      | some r=>rw [h2] at hi; simp at hi
    | some r=>
      rw [h1] at hi
      cases h2 : Q'[i]? with
      | none=>rw [h2] at hi; simp at hi
      | some r'=>
        rw [h2] at hi
        have : r.1 = r'.1:=by simpa using hi
        show (if isM m r then 1 else 0) = if isM m r' then 1 else 0
        rw [show isM m r = isM m r' by unfold isM; rw [this]]
  unfold idxOf
  rw [hf,hl]
theorem findOf_none (a : Option Addr) (c : Nat) (m : Bm) (w : World) : Calls Tryz.prog 25 #[.slice a 0 c,.agg #[.string m.1,.string m.2]] w fun e w'=>e = .returned (.int .i64 (-1)) /\ Below w.heap.size w w':=by
  have HB0:=hid ((Below.refl w.heap.size w).alloc (Nat.le_refl _) (.cells #[.string m.1,.string m.2] 25))
  go_enter Tryz.func25,Tryz.ntmps25
  go_wp2_with fail
  go_loopw [5] (fun i wr=>i = .int .i64 0 /\ Hid (Below w.heap.size w wr)) (fun i _=>0)
  case atStart=>exact ⟨rfl,HB0⟩
  case round=>
    obtain ⟨rfl,HB⟩:=hrel
    go_wp2_with fail
    go_ret
    exact ⟨rfl,HB.out⟩
theorem findOf_all (Q : List Raw) (m : Bm) (v : Value) (w : World) (hL : Q.length <= 1000000) (hv : EsAt w v Q) :
    Calls Tryz.prog 25 #[v,.agg #[.string m.1,.string m.2]] w fun e w'=>e = .returned (.int .i64 (idxOf (isM m) Q)) /\ Below w.heap.size w w':=by
  by_cases hQ : Q = []
  · subst hQ
    obtain ⟨a,c,rfl,_⟩:=hv
    exact findOf_none a c m w
  · exact findOf_any Q m v w hL (List.length_pos_iff.2 hQ) hv
theorem ms_nil0 (w : World) : MsAt w (.slice none 0 0) []:=⟨none,0,rfl,Nat.le_refl _,fun h=>absurd rfl h⟩
theorem box_two {W : World} {g : Nat} {x y : Value} {T : TypeId} (h : W.heap[g]? = some (.cells #[x,y] T (0,0))) : W.cell? ⟨g,0,none⟩ = some x /\ W.cell? ⟨g,1,none⟩ = some y /\ ∀ o,W.frozen? ⟨g,o,none⟩ = false:=
  ⟨by rw [Lib.cell_of_heap h]; rfl,by rw [Lib.cell_of_heap h]; rfl,fun o=>Lib.frozen_of_heap h o⟩
def selO : List Bool -> List Bm -> List Bm
  | b :: O,m :: U=>if b then m :: selO O U else selO O U
  | _,_=>[]
theorem selO_take : ∀ (O : List Bool) (U : List Bm) (k : Nat) (h : k < O.length) (h' : k < U.length),selO (O.take (k + 1)) (U.take (k + 1)) = selO (O.take k) (U.take k) ++ (if O[k] then [U[k]] else [])
  | [],_,_,h,_=>absurd h (Nat.not_lt_zero _)
  | _ :: _,[],_,_,h'=>absurd h' (Nat.not_lt_zero _)
  | b :: O,m :: U,0,_,_=>by cases b <;> simp [selO]
  | b :: O,m :: U,k + 1,h,h'=>by
    have ih:=selO_take O U k (by simpa using h) (by simpa using h')
    simp only [List.take_succ_cons,selO,List.getElem_cons_succ]
    cases b <;> simp [ih]
theorem selO_filter : ∀ (O : List Bool) (U : List Bm) (P : Bm -> Bool),O.length = U.length -> (∀ i (h : i < U.length) (h' : i < O.length),O[i] = P U[i]) -> selO O U = U.filter P
  | [],[],_,_,_=>rfl
  | [],_ :: _,_,h,_=>by simp at h
  | _ :: _,[],_,h,_=>by simp at h
  | b :: O, m :: U, P, h, hp => by
    have h0:=hp 0 (by simp) (by simp)
    have ih:=selO_filter O U P (by simpa using h) (fun i h1 h2=>by
      have h3:=hp (i + 1) (by simpa using h1) (by simpa using h2)
      simp only [List.getElem_cons_succ] at h3
      exact h3)
    simp only [List.getElem_cons_zero] at h0
    simp only [selO,List.filter_cons,ih,h0]
def unmV : List Value -> Nat
  | []=>0
  | .bool false :: l=>unmV l + 1
  | _ :: l=>unmV l
theorem unmV_is : ∀ O : List Bool,unmV (O.map Value.bool) = unm O
  | []=>rfl
  | true :: O=>by show unmV (O.map Value.bool) = unm O; exact unmV_is O
  | false :: O=>by show unmV (O.map Value.bool) + 1 = unm O + 1; rw [unmV_is O]
def unmW : Option Obj -> Nat
  | some (.cells cs _ _)=>unmV cs.toList
  | _=>0
theorem unmW_is {W : World} {g : Nat} {O : List Bool} (h : W.heap[g]? = some (.cells (bwc O) 4 (0,0))) : unmW W.heap[g]? = unm O:=by
  rw [h]
  show unmV (bwc O).toList = unm O
  unfold bwc
  rw [List.toList_toArray,unmV_is]
theorem Mks.set {w W : World} {Q : List Raw} {L : List Ent} {roots : List Bm} {O : List Bool} (h : Mks w W Q L roots O) {a : Nat} (ha : a < (univ L).length) (hr : Rch (reqQ Q L) roots (univ L)[a]) : Mks w (W.setCell ⟨w.heap.size,a,none⟩ (.bool true)) Q L roots (O.set a true):=
  ⟨h.bl.setCell (Nat.le_refl _) _,by rw [set_block h.hp,bwc_set],h.ok.set ha hr⟩
theorem idx_univ {w : World} {v : Value} {Q : List Raw} {L : List Ent} (I : Ixs w v Q L) {m : Bm} (hm : m ∈ univ L) : ∃ k,∃ hk : k < (univ L).length,idxOf (isM m) Q = (k : Int) /\ (univ L)[k] = m:=by
  obtain ⟨k,hk⟩:=(found_iff I m).1 hm
  obtain ⟨h1,h2⟩:=idx_is hk
  have h3 : k < L.length:=by rw [<- I.ln]; exact h1
  refine ⟨k,by simpa [univ] using h3,hk,?_⟩
  have:=of_decide_eq_true h2
  simp only [univ,List.getElem_map]
  rw [<- (I.ok k h1 h3).m]
  exact Prod.ext this.1 this.2
theorem univ_nd {Q : List Raw} {L : List Ent} (h : (chk Q L).1 = 0) : (univ L).Nodup:=
  (univ_rises h).imp fun {a b} h e=>by subst e; rw [mAhead_irr] at h; cases h
theorem req_at {w : World} {v : Value} {Q : List Raw} {L : List Ent} (I : Ixs w v Q L) (h : (chk Q L).1 = 0) {i : Nat} (hi : i < L.length) (hi' : i < (univ L).length) : reqQ Q L (univ L)[i] = L[i].2.1:=by
  obtain ⟨k,hk,e1,e2⟩:=idx_univ I (List.getElem_mem hi')
  have hki : k = i:=by
    have hp:=List.pairwise_iff_getElem.1 (univ_nd h)
    rcases Nat.lt_trichotomy k i with h1 | h1 | h1
    · exact absurd e2 (hp k i hk hi' h1)
    · exact h1
    · exact absurd e2.symm (hp i k hi' hk h1)
  subst hki
  exact reqQ_at e1 hi
theorem Fas.fr {w W : World} {g : Nat} {Q : List Raw} {L : List Ent} {roots : List Bm} {n i n' i' : Nat} {F : List Nat} (h : Fas w W g Q L roots n i F) (hf : Fr (reqQ Q L) (univ L) roots n' i' F) : Fas w W g Q L roots n' i' F:=⟨h.gg,h.bl,h.hp,hf⟩
theorem reach_all (Q : List Raw) (L : List Ent) (roots : List Bm) (v rv : Value) (A : Nat -> Addr) (m : Int) (w : World) (hn : L.length <= 1000) (hrn : roots.length <= 1000000) (sh : ∀ e,e ∈ L -> ShE e) (S : Te w A m) (I : Ixs w v Q L) (hr : MsAt w rv roots) :
    Calls Tryz.prog 20 #[v,rv] w fun e w'=>∃ a c x,e = .returned (.tuple #[.slice a (rX Q L roots).length c,x]) /\ MsAt w' (.slice a (rX Q L roots).length c) (rX Q L roots) /\ ErrAt w' A x (rF Q L roots).1 (rF Q L roots).2 /\ Below w.heap.size w w':=by
  by_cases h : (chkG Q L roots).1 = 0
  · refine (reach_good Q L roots v rv A m w hn hrn sh S I hr h).mono ?_
    rintro e w' ⟨u,rfl,T,hT,hown,hb⟩
    rw [rX_go I h hT] at hown
    have hms:=own_ms hown
    obtain ⟨a,c,hu⟩:=own_slN hown
    subst hu
    exact ⟨a,c,_,rfl,hms,by rw [rF_good h]; rfl,hb⟩
  · refine (reach_bad Q L roots v rv A m w hn hrn sh S I hr h).mono ?_
    rintro e w' ⟨T,a,rfl,he,hb⟩
    rw [rX_bad h,rF_bad h]
    exact ⟨_,_,_,rfl,ms_nil0 _,he,hb⟩
end Ve
end Go.Proofs.YtlcffhadobhfkaaGreatDoor
