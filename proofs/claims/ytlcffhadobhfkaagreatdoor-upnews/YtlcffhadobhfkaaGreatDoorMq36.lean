/-
  BoA IxPa MvP MvA MvB MvG
-/
import Derived.Test.YtlcffhadobhfkaaGreatDoorMq6
import Derived.Test.YtlcffhadobhfkaaGreatDoorMq11
import Derived.Test.YtlcffhadobhfkaaGreatDoorMq9
import Derived.Test.YtlcffhadobhfkaaGreatDoorMq2
import Derived.Test.YtlcffhadobhfkaaGreatDoorMq18
import Derived.Test.YtlcffhadobhfkaaGreatDoorMq19
import Derived.Test.YtlcffhadobhfkaaGreatDoorMq20
import Derived.Test.YtlcffhadobhfkaaGreatDoorMq5
import Derived.Test.YtlcffhadobhfkaaGreatDoorMq34
import Derived.Test.YtlcffhadobhfkaaGreatDoorMq3
import Derived.Test.YtlcffhadobhfkaaGreatDoorMq16
import Derived.Test.YtlcffhadobhfkaaGreatDoorMq23
import Derived.Test.YtlcffhadobhfkaaGreatDoorMq22
import Derived.Test.YtlcffhadobhfkaaGreatDoorMq45
namespace Go.Proofs.YtlcffhadobhfkaaGreatDoor
open Go.RowKit Go.Maps
namespace Ve
theorem both_run (X Y : List Bm) (dv sv : Value) (W : World) (B : Nat) (hB : B <= W.heap.size) (hX : X.length <= 1000) (hY : Y.length <= 1000) (ho : W.ownsRow B 25 2 dv X.length (flatM X)) (h : MsAt W sv Y) (he : Em sv Y) :
    ∃ v' W',(Builtin.append_ #[23,23] 23 #[dv,sv]).run Tryz.prog W = .ok v' W' /\ W'.ownsRow B 25 2 v' (X ++ Y).length (flatM (X ++ Y)) /\ W.grownBy W' dv.ownBlock:=by
  obtain ⟨i0,hi,hz0,hz1,hz2⟩:=info_parts infoMod
  obtain ⟨a,c,rfl,hc,h2⟩:=h
  have some_case : ∀ a',(∀ j u,(flatM Y)[j]? = some u -> W.cell? (a'.add j) = some u) -> ∃ v' W',(Builtin.append_ #[23,23] 23 #[dv,.slice (some a') Y.length c]).run Tryz.prog W = .ok v' W' /\ W'.ownsRow B 25 2 v' (X ++ Y).length (flatM (X ++ Y)) /\ W.grownBy W' dv.ownBlock:=fun a' hcell=>by
    obtain ⟨v',W',h3,h4,h5,_⟩:=run_append_own (P:=Tryz.prog) W B 23 23 25 i0 _ 2 32 Tryz.underlying23 hi hz0 hz1 hz2 rfl (by decide) dv X.length (flatM X) ho a' Y.length c (flatM Y) (flatM_len Y) hcell (flat_one Y) (by unfold maxLen; omega) (by omega) hB
    exact ⟨v',W',h3,by rw [List.length_append,flatM_app]; exact h4,h5⟩
  cases Y with
  | nil=>
    rcases he a c rfl rfl with hz | ⟨a',hz⟩
    · refine ⟨dv,W,?_,by simpa using ho,⟨rfl,rfl,rfl,Nat.le_refl _,fun _ _ _=>rfl⟩⟩
      show (Builtin.append_ #[23,23] 23 #[dv,.slice a 0 c]).run Tryz.prog W = _
      rw [hz]
      exact run_append_owned_none (P:=Tryz.prog) (w:=W) B 23 23 25 i0 2 Tryz.underlying23 hi dv X.length (flatM X) ho
    · have hz' : (Value.slice a ([] : List Bm).length c) = .slice (some a') ([] : List Bm).length c:=hz
      rw [hz']
      exact some_case a' (fun j u hj=>by simp [flatM] at hj)
  | cons x r=>
    obtain ⟨b,o,rfl,hcell⟩:=h2 (by simp)
    exact some_case ⟨b,o,none⟩ (fun j u hj=>by rw [Addr.add_lit]; exact ms_flat hcell j u hj)
theorem Good.same {Q : List Raw} (g : Good Q) {r s : Raw} (hr : r ∈ Q) (hs : s ∈ Q) (h : r.1 = s.1) : r = s:=by
  obtain ⟨i,hi,rfl⟩:=List.getElem_of_mem hr
  obtain ⟨j,hj,rfl⟩:=List.getElem_of_mem hs
  have:=g.one i j hi hj h
  subst this; rfl
theorem ahead_same {a b : Bm} (h : a.1 = b.1) : mAhead a b = lessB (vb a) (vb b):=by
  unfold mAhead aheadB
  rw [if_pos (by rw [h])]
theorem less_right {s t : List UInt8} (hs : verErr s = 0) (ht : verErr t = 0) : lessB s t = decide (ordV s t < 0):=by
  unfold lessB
  simp [hs,ht]
theorem ordV_total {s t : List UInt8} (h : ¬ ordV s t < 0) : ordV t s <= 0:=by rw [ordV_swap s t]; omega
def idxB (P : Bm -> Bool) (L : List Bm) : Int:=if L.any P then (L.findIdx P : Int) else -1
theorem idxB_hit {P : Bm -> Bool} {L : List Bm} {k : Nat} (hk : k < L.length) (h0 : ∀ j (hj : j < L.length),j < k -> P L[j] = false) (h : P L[k] = true) : idxB P L = (k : Int):=by
  unfold idxB
  rw [if_pos (List.any_eq_true.2 ⟨L[k],List.getElem_mem hk,h⟩),(List.findIdx_eq hk).2 ⟨h,fun j hj=>h0 j (by omega) hj⟩]
theorem idxB_not {P : Bm -> Bool} {L : List Bm} (h0 : ∀ j (hj : j < L.length),P L[j] = false) : idxB P L = -1:=by
  unfold idxB
  rw [if_neg]
  intro h
  obtain ⟨x,hx,h1⟩:=List.any_eq_true.1 h
  obtain ⟨j,hj,rfl⟩:=List.getElem_of_mem hx
  rw [h0 j hj] at h1; cases h1
theorem idxB_next {P : Bm -> Bool} {L : List Bm} {k : Nat} (hk : k < L.length) (h0 : ∀ j (hj : j < L.length),j < k -> P L[j] = false) (h : P L[k] = false) : ∀ j (hj : j < L.length),j < k + 1 -> P L[j] = false:=fun j hj hjk=>by
  rcases Nat.lt_or_ge j k with h1 | h1
  · exact h0 j hj h1
  · have : j = k:=by omega
    subst this; exact h
set_option maxHeartbeats 2000000 in
set_option maxRecDepth 100000 in
theorem idxM_some (K : Nat) (cb : Array Value) (P : Bm → Bool) (L : List Bm) (b o c : Nat) (w : World) (eg : ∀ args w, (callFunc K args).run Tryz.prog w = .ok (.enter K args) w) (hL : L.length ≤ 1000000)
    (hc : ∀ j (h : j < L.length),w.cell? ⟨b,o + j * 2,none⟩ = some (.string L[j].1) /\ w.cell? ⟨b,o + j * 2 + 1,none⟩ = some (.string L[j].2))
    (hK : ∀ i (h : i < L.length) W,Below w.heap.size w W -> Calls Tryz.prog K (#[.agg #[.string L[i].1,.string L[i].2]] ++ cb) W fun e w'=>e = .returned (.bool (P L[i])) /\ Below W.heap.size W w') :
    Calls Tryz.prog 78 #[.slice (some ⟨b,o,none⟩) L.length c,.func (.func K) #[] cb] w fun e w'=>e = .returned (.int .i64 (idxB P L)) /\ Below w.heap.size w w':=by
  have HK:=hid hK
  have HC:=hid hc
  generalize hr : idxB P L = r
  have HR:=hid hr
  clear hK hc hr
  go_enter Tryz.func78,Tryz.ntmps78
  go_wp2_with fail
  go_loopw [8] (fun i wr=>∃ k : Nat,k <= L.length /\ i = .int .i64 k /\ Hid (∀ j (h : j < L.length),j < k -> P L[j] = false) /\ Hid (Below w.heap.size w wr)) (fun i _=>L.length - (intOf i).toNat)
  case atStart=>exact ⟨0,Nat.zero_le _,rfl,hid (fun j _ hj=>absurd hj (by omega)),hid (Below.refl _ _)⟩
  case round=>
    obtain ⟨k,hk,rfl,HA,HB⟩:=hrel
    by_cases hlt : k < L.length
    · have HP:=hid (HK.out k hlt wr HB.out)
      have x0:=cell_below HB.out (HC.out k hlt).1
      have x1:=cell_below HB.out (HC.out k hlt).2
      have hkI : (k : Int) < (L.length : Int):=by omega
      have HLT:=hid hlt
      have HF:=hid (fun h=>idxB_hit hlt HA.out h)
      have HN:=hid (fun h=>idxB_next hlt HA.out h)
      generalize hx : L[k] = x at *
      cases hp : P x
      · rw [hp] at HP
        have HN2:=hid (HN.out hp)
        clear hp hx hlt
        go_wp2_with fail
        refine HP.out.mono ?_
        rintro e w1 ⟨rfl,hb⟩
        have HB1:=hid (HB.out.trans (hb.mono HB.out.size))
        clear hb
        go_wp2_with fail
        go_roundw
        case rel=>exact ⟨k + 1,by have:=HLT.out; omega,by go_num,HN2,HB1⟩
        case measure=>have:=HLT.out; simp [intOf]; omega
      · rw [hp] at HP
        have HF2:=hid (HF.out hp)
        clear hp hx hlt
        go_wp2_with fail
        refine HP.out.mono ?_
        rintro e w1 ⟨rfl,hb⟩
        have HB1:=hid (HB.out.trans (hb.mono HB.out.size))
        clear hb
        go_wp2_with fail
        go_ret
        exact ⟨by rw [<- HR.out,HF2.out]; rfl,HB1.out⟩
    · have HF:=hid (idxB_not (P:=P) (L:=L) (fun j hj=>HA.out j hj (by omega)))
      go_wp2_with fail
      go_ret
      exact ⟨by rw [<- HR.out,HF.out]; rfl,HB.out⟩
theorem idxM_none (K : Nat) (cb : Array Value) (a : Option Addr) (c : Nat) (w : World) :
    Calls Tryz.prog 78 #[.slice a 0 c,.func (.func K) #[] cb] w fun e w'=>e = .returned (.int .i64 (-1)) /\ Below w.heap.size w w':=by
  go_enter Tryz.func78,Tryz.ntmps78
  go_wp2_with fail
  go_loopw [8] (fun i wr=>i = .int .i64 0 /\ wr = w) (fun i _=>0)
  case atStart=>exact ⟨rfl,rfl⟩
  case round=>
    obtain ⟨rfl,rfl⟩:=hrel
    go_wp2_with fail
    go_ret
    exact ⟨rfl,Below.refl _ _⟩
theorem idxM_any (K : Nat) (cb : Array Value) (P : Bm -> Bool) (L : List Bm) (v : Value) (w : World) (eg : ∀ args w,(callFunc K args).run Tryz.prog w = .ok (.enter K args) w) (hL : L.length <= 1000000) (hv : MsAt w v L)
    (hK : ∀ i (h : i < L.length) W,Below w.heap.size w W -> Calls Tryz.prog K (#[.agg #[.string L[i].1,.string L[i].2]] ++ cb) W fun e w'=>e = .returned (.bool (P L[i])) /\ Below W.heap.size W w') :
    Calls Tryz.prog 78 #[v,.func (.func K) #[] cb] w fun e w'=>e = .returned (.int .i64 (idxB P L)) /\ Below w.heap.size w w':=by
  obtain ⟨a,c,rfl,_,h⟩:=hv
  cases L with
  | nil=>exact idxM_none K cb a c w
  | cons x r=>
    obtain ⟨b,o,rfl,h2⟩:=h (by simp)
    exact idxM_some K cb P (x :: r) b o c w eg hL h2 hK
set_option maxHeartbeats 1000000 in
theorem hasM_any (K : Nat) (cb : Array Value) (P : Bm -> Bool) (L : List Bm) (v : Value) (w : World) (eg : ∀ args w,(callFunc K args).run Tryz.prog w = .ok (.enter K args) w) (hL : L.length <= 1000000) (hv : MsAt w v L)
    (hK : ∀ i (h : i < L.length) W,Below w.heap.size w W -> Calls Tryz.prog K (#[.agg #[.string L[i].1,.string L[i].2]] ++ cb) W fun e w'=>e = .returned (.bool (P L[i])) /\ Below W.heap.size W w') :
    Calls Tryz.prog 76 #[v,.func (.func K) #[] cb] w fun e w'=>e = .returned (.bool (L.any P)) /\ Below w.heap.size w w':=by
  obtain ⟨va,vn,vc,hv1⟩:=hv.slice
  have HI:=hid (idxM_any K cb P L v w eg hL hv hK)
  have HX:=hid (show decide (0 <= idxB P L) = L.any P by
    unfold idxB
    cases h : L.any P
    · simp
    · simp)
  generalize L.any P = z at *
  generalize idxB P L = x at *
  subst hv1
  clear hK hv eg
  by_cases h0 : 0 <= x
  · go_enter Tryz.func76,Tryz.ntmps76
    go_wp2_with fail
    refine HI.out.mono ?_
    rintro e w1 ⟨rfl,hb⟩
    have HB:=hid hb
    clear hb
    go_wp2_with fail
    go_ret
    exact ⟨ret_bool (by rw [<- HX.out]; simp [h0]),HB.out⟩
  · go_enter Tryz.func76,Tryz.ntmps76
    go_wp2_with fail
    refine HI.out.mono ?_
    rintro e w1 ⟨rfl,hb⟩
    have HB:=hid hb
    clear hb
    go_wp2_with fail
    go_ret
    exact ⟨ret_bool (by rw [<- HX.out]),HB.out⟩
def mcells (m : Bm) : List Value:=[.string m.1,.string m.2]
theorem Mw.cell {w0 W : World} {g : Nat} {D : List Bm} (h : Mw w0 W g D) (j : Nat) (hj : j < D.length) (c : Nat) (hc : c < 2) : W.cell? ⟨g,j * 2 + c,none⟩ = (mcells D[j])[c]?:=by
  match c,hc with
  | 0,_=>exact h.c0 j hj
  | 1,_=>exact h.c1 j hj
theorem Mw.of_cells {w0 W : World} {g : Nat} {D : List Bm} (h1 : Below w0.heap.size w0 W) (h2 : w0.heap.size <= g) (h3 : g < W.heap.size) (h4 : ∀ o,W.frozen? ⟨g,o,none⟩ = false)
    (h : ∀ j (hj : j < D.length) c (_ : c < 2),W.cell? ⟨g,j * 2 + c,none⟩ = (mcells D[j])[c]?) : Mw w0 W g D:=
  ⟨h1,h2,h3,h4,fun j hj=>h j hj 0 (by omega),fun j hj=>h j hj 1 (by omega)⟩
theorem Mw.ms {w0 W : World} {g : Nat} {D : List Bm} (h : Mw w0 W g D) {cap : Nat} (hc : D.length <= cap) : MsAt W (.slice (some ⟨g,0,none⟩) D.length cap) D:=
  ⟨_,cap,rfl,hc,fun _=>⟨g,0,rfl,fun j hj=>⟨by rw [Nat.zero_add]; exact h.c0 j hj,by rw [Nat.zero_add]; exact h.c1 j hj⟩⟩⟩
theorem own_mw {w0 W : World} {v : Value} {L : List Bm} (h : W.ownsRow w0.heap.size 25 2 v L.length (flatM L)) (hb : Below w0.heap.size w0 W) (hL : L ≠ []) : ∃ g cap,v = .slice (some ⟨g,0,none⟩) L.length cap /\ L.length <= cap /\ cap <= maxLen /\ Mw w0 W g L:=by
  obtain ⟨_,⟨_,hn0⟩ | ⟨g,cap,cur,hv,hg,hblk,hcap,hcm,hcs,hct⟩⟩:=h
  · exact absurd (List.length_eq_zero_iff.1 hn0) hL
  · refine ⟨g,cap,hv,hcap,hcm,Mw.of_cells hb hg (lt_of_blk hblk) (fun o=>by simp [World.frozen?,hblk]) (fun j hj c hc=>?_)⟩
    have h1:=flatM_get L j c hj hc
    rw [<- hct,List.getElem?_take,if_pos (by omega)] at h1
    simp only [World.cell?,hblk]
    unfold mcells
    rw [<- h1]; simp
theorem CpM.start {D : List Bm} (hD : 0 < D.length) (hr : ∀ r,r ∈ D -> Rt r) : CpM D 1 (D.take 1):=by
  match D,hD with
  | r :: R, _ => exact ⟨List.pairwise_singleton _ _, fun t h => h, fun x hx => ⟨x, hx, rfl, by
      have : x = r:=by simpa using hx
      subst this
      rw [(ordV_zero (hr x (by simp)).ver (hr x (by simp)).ver).2 rfl]; omega⟩,by simp⟩
theorem CpM.same {D E : List Bm} {m : Nat} (h : CpM D (m + 1) E) (hs : srtM D) (_hr : ∀ r,r ∈ D -> Rt r) (hm : m + 1 < D.length) (he : D[m + 1].1 = (D[m]'(by omega)).1) : CpM D (m + 1 + 1) E:=by
  have hp:=List.pairwise_iff_getElem.1 hs
  refine ⟨h.ri,fun e he=>(take_snocM hm).2 (Or.inl (h.sub e he)),fun x hx=>?_,by have:=h.len; omega⟩
  rcases (take_snocM hm).1 hx with hx | rfl
  · exact h.top x hx
  · obtain ⟨e,h1,h2,_⟩:=h.top (D[m]'(by omega)) ((take_snocM (by omega)).2 (Or.inr rfl))
    obtain ⟨i,hi,him,rfl⟩:=mem_take_at (h.sub e h1)
    refine ⟨D[i],h1,h2.trans he.symm,?_⟩
    rcases hp i (m + 1) hi hm him with h3 | ⟨_,h3⟩
    · rw [h2,<- he,lt_irrefl] at h3; cases h3
    · exact h3
theorem Mr.ms {w0 W : World} {v : Value} {D : List Bm} (h : Mr w0 W v D) : MsAt W v D:=by
  obtain ⟨_,a,cap,rfl,hc,⟨rfl,_⟩ | ⟨g,rfl,h⟩⟩:=h
  · exact ⟨a,cap,rfl,hc,fun h=>absurd rfl h⟩
  · exact h.ms hc
theorem Mr.em {w0 W : World} {v : Value} {D : List Bm} (h : Mr w0 W v D) : Em v D:=by
  obtain ⟨_,a,cap,rfl,hc,h⟩:=h
  intro a' c' e hD
  injection e with e1 e2 e3
  subst e1 e3
  cases a with
  | some a'=>exact Or.inr ⟨a',rfl⟩
  | none=>
    rcases h with ⟨_,h0⟩ | ⟨g,h,_⟩
    · rw [h0 rfl]; exact Or.inl rfl
    · cases h
theorem mr_own {w0 W : World} {v : Value} {L : List Bm} (h : W.ownsRow w0.heap.size 25 2 v L.length (flatM L)) (hb : Below w0.heap.size w0 W) : Mr w0 W v L:=by
  by_cases hL : L = []
  · subst hL
    obtain ⟨_,⟨rfl,_⟩ | ⟨g,cap,cur,rfl,_,_,_,_⟩⟩:=h
    · exact ⟨hb,none,0,rfl,Nat.le_refl _,Or.inl ⟨rfl,fun _=>rfl⟩⟩
    · exact ⟨hb,_,cap,rfl,Nat.zero_le _,Or.inl ⟨rfl,fun h=>by cases h⟩⟩
  · obtain ⟨g,cap,rfl,h1,_,h3⟩:=own_mw h hb hL
    exact ⟨hb,_,cap,rfl,h1,Or.inr ⟨g,rfl,h3⟩⟩
theorem Mr.base {w w0 W : World} {v : Value} {D : List Bm} (h : Mr w0 W v D) (hb : Below w.heap.size w w0) : Mr w W v D:=by
  obtain ⟨h1,a,cap,rfl,hc,hk⟩:=h
  refine ⟨hb.trans (h1.mono hb.size),a,cap,rfl,hc,?_⟩
  rcases hk with hk | ⟨g,rfl,hM⟩
  · exact Or.inl hk
  · exact Or.inr ⟨g,rfl,hb.trans (h1.mono hb.size),Nat.le_trans hb.size hM.lo,hM.hi,hM.fz,hM.c0,hM.c1⟩
theorem Mr.sl {w0 W : World} {v : Value} {D : List Bm} (h : Mr w0 W v D) : ∃ a c,v = .slice a D.length c:=by
  obtain ⟨_,a,cap,rfl,_⟩:=h
  exact ⟨a,cap,rfl⟩
end Ve
end Go.Proofs.YtlcffhadobhfkaaGreatDoor
