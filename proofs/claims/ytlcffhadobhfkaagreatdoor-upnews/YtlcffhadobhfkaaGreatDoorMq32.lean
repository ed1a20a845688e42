/-
  IdA SmG MtP BxP
-/
import Derived.Test.YtlcffhadobhfkaaGreatDoorMq3
import Derived.Test.YtlcffhadobhfkaaGreatDoorMq5
import Derived.Test.YtlcffhadobhfkaaGreatDoorMq6
import Derived.Test.YtlcffhadobhfkaaGreatDoorMq11
import Derived.Test.YtlcffhadobhfkaaGreatDoorMq9
import Derived.Test.YtlcffhadobhfkaaGreatDoorMq2
import Derived.Test.YtlcffhadobhfkaaGreatDoorMq18
import Derived.Test.YtlcffhadobhfkaaGreatDoorMq19
import Derived.Test.YtlcffhadobhfkaaGreatDoorMq20
import Derived.Test.YtlcffhadobhfkaaGreatDoorMq23
import Derived.Test.YtlcffhadobhfkaaGreatDoorMq16
import Derived.Test.YtlcffhadobhfkaaGreatDoorMq34
import Derived.Test.YtlcffhadobhfkaaGreatDoorMq22
import Derived.Test.YtlcffhadobhfkaaGreatDoorMq45
import Derived.Test.YtlcffhadobhfkaaGreatDoorMq37
import Derived.Test.YtlcffhadobhfkaaGreatDoorMq33
import Derived.Test.YtlcffhadobhfkaaGreatDoorMq36
import Derived.Test.YtlcffhadobhfkaaGreatDoorMq17
import Derived.Test.YtlcffhadobhfkaaGreatDoorMq56
namespace Go.Proofs.YtlcffhadobhfkaaGreatDoor
open Go.RowKit
namespace Ve
theorem ix_lt {i n : Nat} (h : i < n) : (i : Int) < (n : Int):=Int.ofNat_lt.2 h
theorem ix_nlt {i n : Nat} (h : ¬ i < n) : ¬ (i : Int) < (n : Int):=fun e=>h (Int.ofNat_lt.1 e)
theorem ix_pos (i : Nat) : (0 : Int) <= (i : Int):=Int.natCast_nonneg _
theorem ix_nat1 (i : Nat) : ((i : Int) + 1).toNat = i + 1:=by omega
theorem ix_w1 {i n : Nat} (h : i < n) (hn : n <= 1000000) : wrap64 ((i : Int) + 1) = (i : Int) + 1:=IntWalk.wrap64_in _ (by omega)
theorem ix_k1 {i n : Nat} (h : i < n) (hn : n <= 1000000) : IntKind.i64.wrap ((i : Int) + 1) = (i : Int) + 1:=by rw [IntKind.wrap_i64] <;> omega
open Go.Maps
set_option maxHeartbeats 2000000 in
theorem sameG_len (a a' : Option Addr) (n n' c c' : Nat) (w : World) (h : n ≠ n') : Calls Tryz.prog 23 #[.slice a n c,.slice a' n' c'] w fun e w'=>e = .returned (.bool false) /\ Below w.heap.size w w':=by
  have h1 : ¬ (n : Int) = (n' : Int):=by omega
  have h2 : ((n : Int) == (n' : Int)) = false:=by simp; omega
  go_enter Tryz.func23,Tryz.ntmps23
  go_wp2_with fail
  go_ret
  exact ⟨rfl,Below.refl _ _⟩
set_option maxHeartbeats 2000000 in
theorem sameG_some (L M : List Bm) (b o c b' o' c' : Nat) (w : World) (hn : L.length ≤ 1000000) (hl : M.length = L.length)
    (hc : ∀ j (h : j < L.length),w.cell? ⟨b,o + j * 2,none⟩ = some (.string L[j].1) /\ w.cell? ⟨b,o + j * 2 + 1,none⟩ = some (.string L[j].2))
    (hd : ∀ j (h : j < M.length),w.cell? ⟨b',o' + j * 2,none⟩ = some (.string M[j].1) /\ w.cell? ⟨b',o' + j * 2 + 1,none⟩ = some (.string M[j].2)) :
    Calls Tryz.prog 23 #[.slice (some ⟨b,o,none⟩) L.length c,.slice (some ⟨b',o',none⟩) L.length c'] w fun e w'=>e = .returned (.bool (decide (L = M))) /\ Below w.heap.size w w':=by
  have HC:=hid hc
  have HD:=hid hd
  have hgd:=modGuard
  have HX:=hid (show (∀ j (h : j < L.length) (h' : j < M.length),L[j] = M[j]) -> decide (L = M) = true from fun h=>decide_eq_true (List.ext_getElem hl.symm (fun j h1 h2=>h j h1 h2)))
  have HY:=hid (show ∀ j (h : j < L.length) (h' : j < M.length),L[j] ≠ M[j] -> decide (L = M) = false from fun j h h' hne=>decide_eq_false (fun e=>hne (by subst e; rfl)))
  generalize decide (L = M) = z at *
  clear hc hd
  go_enter Tryz.func23,Tryz.ntmps23
  go_wp2_with fail
  go_loopw [5] (fun i wr=>∃ k : Nat,k <= L.length /\ i = .int .i64 k /\ Hid (∀ j (h : j < L.length) (h' : j < M.length),j < k -> L[j] = M[j]) /\ Hid (Below w.heap.size w wr)) (fun i _=>L.length - (intOf i).toNat)
  case atStart=>exact ⟨0,Nat.zero_le _,rfl,hid (fun j _ _ hj=>absurd hj (Nat.not_lt_zero _)),hid (Below.refl _ _)⟩
  case round=>
    obtain ⟨k,hk,rfl,HE,HB⟩:=hrel
    by_cases hlt : k < L.length
    · have hlm : k < M.length:=by omega
      have hx:=cell_below HB.out (HC.out k hlt).1
      have hy:=cell_below HB.out (HC.out k hlt).2
      have hx':=cell_below HB.out (HD.out k hlm).1
      have hy':=cell_below HB.out (HD.out k hlm).2
      have hne:=fun W=>modNeq L[k].1 L[k].2 M[k].1 M[k].2 W
      have hkI : (k : Int) < (L.length : Int):=by omega
      have HLT:=hid hlt
      have HN:=hid (show L[k] = M[k] -> ∀ j (h : j < L.length) (h' : j < M.length),j < k + 1 -> L[j] = M[j] from fun h0 j h1 h2 h3=>by
        rcases Nat.lt_or_ge j k with h | h
        · exact HE.out j h1 h2 h
        · have : j = k:=by omega
          subst this; exact h0)
      have HYK:=hid (HY.out k hlt hlm)
      generalize L[k] = x at *
      generalize M[k] = y at *
      obtain ⟨x1,x2⟩:=x
      obtain ⟨y1,y2⟩:=y
      simp only at hx hy hx' hy' hne
      clear hlt hlm
      by_cases he : x1 = y1 /\ x2 = y2
      · rw [decide_eq_true he] at hne
        have HN2:=hid (HN.out (Prod.ext he.1 he.2))
        clear he HN
        go_wp2_with fail
        go_quiet (fail)
        go_wp2_with fail
        go_roundw
        case rel=>first | exact ⟨k + 1,HLT.out,nr_idx k,HN2,hid (below_drawn_of HB.out _)⟩ | exact ⟨k + 1,HLT.out,nx_idx HLT.out hn,HN2,hid (below_drawn_of HB.out _)⟩
        case measure=>first | exact nr_meas HLT.out | exact nx_meas HLT.out hn
      · rw [decide_eq_false he] at hne
        have HZ:=hid (HYK.out (fun e=>he (by injection e with e1 e2; exact ⟨e1,e2⟩)))
        clear he HN
        go_wp2_with fail
        go_quiet (fail)
        go_wp2_with fail
        go_ret
        exact ⟨by rw [HZ.out]; rfl,below_drawn_of HB.out _⟩
    · have hkI : ¬ (k : Int) < (L.length : Int):=by omega
      have HZ:=hid (HX.out (fun j h h'=>HE.out j h h' (by omega)))
      go_wp2_with fail
      go_ret
      exact ⟨by rw [HZ.out]; rfl,HB.out⟩
theorem sameG_any (L M : List Bm) (v u : Value) (w : World) (hn : L.length <= 1000000) (hv : MsAt w v L) (hu : MsAt w u M) : Calls Tryz.prog 23 #[v,u] w fun e w'=>e = .returned (.bool (decide (L = M))) /\ Below w.heap.size w w':=by
  obtain ⟨a,c,rfl,_,h⟩:=hv
  obtain ⟨a',c',rfl,_,h'⟩:=hu
  by_cases hl : M.length = L.length
  · cases L with
    | nil=>
      have : M = []:=List.length_eq_zero_iff.1 hl
      subst this
      exact sameM_none a a' c c' w
    | cons x r=>
      obtain ⟨b,o,rfl,h2⟩:=h (by simp)
      obtain ⟨b',o',rfl,h3⟩:=h' (fun e=>by rw [e] at hl; simp at hl)
      rw [hl]
      exact sameG_some (x :: r) M b o c b' o' c' w hn hl h2 h3
  · rw [decide_eq_false (fun e=>hl (by rw [e]))]
    exact sameG_len a a' _ _ c c' w (fun e=>hl e.symm)
theorem lastN_skip {X : List Bm} {i : Nat} (h : i < X.length) (hb : nextB X i X[i].1 = true) : lastN X (i + 1) = lastN X i:=by
  show lastN X i ++ _ = _
  rw [List.getElem?_eq_getElem h]
  simp only [hb,if_true,List.append_nil]
theorem lastN_keep {X : List Bm} {i : Nat} (h : i < X.length) (hb : nextB X i X[i].1 = false) : lastN X (i + 1) = lastN X i ++ [X[i]]:=by
  show lastN X i ++ _ = _
  rw [List.getElem?_eq_getElem h]
  simp [hb]
theorem lastN_len (X : List Bm) : ∀ i,(lastN X i).length <= i
  | 0=>Nat.le_refl _
  | i + 1 => by
    have h:=lastN_len X i
    show (lastN X i ++ _).length <= _
    rw [List.length_append]
    split
    · split
      · simp; omega
      · simp; omega
    · simp; omega
theorem nextB_at {X : List Bm} {i : Nat} {p : ByteArray} (h : i + 1 < X.length) : nextB X i p = decide (X[i + 1].1 = p):=by unfold nextB; rw [List.getElem?_eq_getElem h]
theorem nextB_end {X : List Bm} {i : Nat} {p : ByteArray} (h : ¬ i + 1 < X.length) : nextB X i p = false:=by unfold nextB; rw [List.getElem?_eq_none (by omega)]
theorem lastN_over {X : List Bm} {n : Nat} (h : ¬ n < X.length) : lastN X (n + 1) = lastN X n:=by
  show lastN X n ++ _ = _
  rw [List.getElem?_eq_none (by omega)]; simp
theorem lastN_mem {X : List Bm} {e : Bm} : ∀ n, e ∈ lastN X n ↔ ∃ i, ∃ h : i < X.length, i < n ∧ X[i] = e ∧ nextB X i X[i].1 = false
  | 0=>⟨(fun h=>by cases h),fun ⟨i,_,h,_⟩=>absurd h (Nat.not_lt_zero _)⟩
  | n + 1 => by
    have ih:=lastN_mem (X:=X) (e:=e) n
    by_cases h : n < X.length
    · cases hb : nextB X n X[n].1
      · rw [lastN_keep h hb,List.mem_append,ih,List.mem_singleton]
        constructor
        · rintro (⟨i,hi,h1,h2,h3⟩ | rfl)
          · exact ⟨i,hi,by omega,h2,h3⟩
          · exact ⟨n,h,by omega,rfl,hb⟩
        · rintro ⟨i,hi,h1,h2,h3⟩
          rcases Nat.lt_or_ge i n with h4 | h4
          · exact Or.inl ⟨i,hi,h4,h2,h3⟩
          · have : i = n:=by omega
            subst this; exact Or.inr h2.symm
      · rw [lastN_skip h hb,ih]
        constructor
        · rintro ⟨i,hi,h1,h2,h3⟩; exact ⟨i,hi,by omega,h2,h3⟩
        · rintro ⟨i,hi,h1,h2,h3⟩
          rcases Nat.lt_or_ge i n with h4 | h4
          · exact ⟨i,hi,h4,h2,h3⟩
          · have : i = n:=by omega
            subst this; rw [hb] at h3; cases h3
    · rw [lastN_over h,ih]
      constructor
      · rintro ⟨i,hi,h1,h2,h3⟩; exact ⟨i,hi,by omega,h2,h3⟩
      · rintro ⟨i,hi,h1,h2,h3⟩; exact ⟨i,hi,by omega,h2,h3⟩
theorem lastN_rising {X : List Bm} (hX : X.Pairwise fun a b => mAhead a b = true) : ∀ n, n ≤ X.length → rising (lastN X n)
  | 0,_=>List.Pairwise.nil
  | n + 1, hn => by
    have ih:=lastN_rising hX n (by omega)
    have h : n < X.length:=by omega
    cases hb : nextB X n X[n].1
    · rw [lastN_keep h hb]
      refine List.pairwise_append.2 ⟨ih,List.pairwise_singleton _ _,fun a ha b hbb=>?_⟩
      rw [List.mem_singleton.1 hbb]
      obtain ⟨i,hi,h1,rfl,h3⟩:=(lastN_mem n).1 ha
      have hp:=List.pairwise_iff_getElem.1 hX
      have h4 : i + 1 < X.length:=by omega
      rw [nextB_at h4] at h3
      have h5 : X[i + 1].1 ≠ X[i].1:=of_decide_eq_false h3
      have h6:=hp i (i + 1) hi h4 (by omega)
      rw [ahead_other (fun e=>h5 e.symm)] at h6
      rcases Nat.lt_or_ge (i + 1) n with h7 | h7
      · have h8:=hp (i + 1) n h4 h h7
        by_cases e : X[i + 1].1 = X[n].1
        · rw [<- e]; exact h6
        · rw [ahead_other e] at h8; exact lt_trans h6 h8
      · have : n = i + 1:=by omega
        subst this; exact h6
    · rw [lastN_skip h hb]; exact ih
theorem ordV_selfJ {m : Bm} (h : mErr m = 0) : ordV (vb m) (vb m) <= 0:=by rw [(ordV_zero (mErr_zero h).2 (mErr_zero h).2).2 rfl]; omega
theorem lastN_top {X : List Bm} (hX : X.Pairwise fun a b => mAhead a b = true) (hr : ∀ m, m ∈ X → mErr m = 0) : ∀ (d i : Nat) (hi : i < X.length), X.length - i = d → ∃ e, e ∈ lastN X X.length ∧ e.1 = X[i].1 ∧ ordV (vb X[i]) (vb e) ≤ 0
  | 0,i,hi,h=>by omega
  | d + 1, i, hi, h => by
    have hm:=hr X[i] (List.getElem_mem hi)
    cases hb : nextB X i X[i].1
    · exact ⟨X[i],(lastN_mem _).2 ⟨i,hi,hi,rfl,hb⟩,rfl,ordV_selfJ hm⟩
    · by_cases h1 : i + 1 < X.length
      · rw [nextB_at h1] at hb
        have h2 : X[i + 1].1 = X[i].1:=of_decide_eq_true hb
        obtain ⟨e,he,e1,e2⟩:=lastN_top hX hr d (i + 1) h1 (by omega)
        have hm1:=hr X[i + 1] (List.getElem_mem h1)
        have h3:=List.pairwise_iff_getElem.1 hX i (i + 1) hi h1 (by omega)
        rw [ahead_same h2.symm,less_right (mErr_zero hm).2 (mErr_zero hm1).2] at h3
        have h4:=of_decide_eq_true h3
        have hme : mErr e = 0:=by
          obtain ⟨j,hj,_,rfl,_⟩:=(lastN_mem _).1 he
          exact hr _ (List.getElem_mem hj)
        exact ⟨e,he,e1.trans h2,ordV_le_trans (mErr_zero hm).2 (mErr_zero hm1).2 (mErr_zero hme).2 (Int.le_of_lt h4) e2⟩
      · rw [nextB_end h1] at hb; cases hb
theorem lastN_jn {X : List Bm} (hX : X.Pairwise fun a b=>mAhead a b = true) (hr : ∀ m,m ∈ X -> mErr m = 0) : Jn X (lastN X X.length):=by
  refine ⟨lastN_rising hX _ (Nat.le_refl _),fun e he=>?_,fun x hx _=>?_⟩
  · obtain ⟨j,hj,_,rfl,_⟩:=(lastN_mem _).1 he
    exact ⟨List.getElem_mem hj,hr _ (List.getElem_mem hj)⟩
  · obtain ⟨i,hi,rfl⟩:=List.getElem_of_mem hx
    exact lastN_top hX hr _ i hi rfl
theorem rX_rises {Q : List Raw} {L : List Ent} {roots : List Bm} : (rX Q L roots).Pairwise fun a b=>mAhead a b = true:=by
  by_cases h : (chkG Q L roots).1 = 0
  · unfold rX
    rw [if_pos h]
    have hc : (chk Q L).1 = 0:=by
      by_cases hc : (chk Q L).1 = 0
      · exact hc
      · rw [chkG_bad hc] at h; exact h
    exact List.Pairwise.filter _ (univ_rises hc)
  · rw [rX_bad h]; exact List.Pairwise.nil
theorem chkG_chk {Q : List Raw} {L : List Ent} {roots : List Bm} (h : (chkG Q L roots).1 = 0) : (chk Q L).1 = 0:=by
  by_cases hc : (chk Q L).1 = 0
  · exact hc
  · rw [chkG_bad hc] at h; exact h
theorem rX_right {Q : List Raw} {L : List Ent} {roots : List Bm} : ∀ m,m ∈ rX Q L roots -> mErr m = 0:=fun m hm=>by
  obtain ⟨h1,h2⟩:=rX_in hm
  exact univ_right (chkG_chk h1) m h2
theorem bX_jn (Q : List Raw) (L : List Ent) (roots : List Bm) : Jn (rX Q L roots) (bX Q L roots):=lastN_jn rX_rises rX_right
theorem bX_len {Q : List Raw} {L : List Ent} {roots : List Bm} : (bX Q L roots).length <= L.length:=Nat.le_trans (lastN_len _ _) rX_len
theorem bX_bad {Q : List Raw} {L : List Ent} {roots : List Bm} (h : ¬ (chkG Q L roots).1 = 0) : bX Q L roots = []:=by unfold bX; rw [rX_bad h]; rfl
theorem bt_bX {w : World} {v : Value} {Q : List Raw} {L : List Ent} {roots E : List Bm} (I : Ixs w v Q L) (h : (chkG Q L roots).1 = 0) (hb : Bt Q L roots E) : E = bX Q L roots:=by
  obtain ⟨T,h1,h2,_⟩:=hb.c
  rw [rX_go I h h1] at h2
  exact h2.one (bX_jn Q L roots) (fun _ _=>Iff.rfl)
theorem build_all (Q : List Raw) (L : List Ent) (roots : List Bm) (v rv : Value) (A : Nat -> Addr) (m : Int) (w : World) (hn : L.length <= 1000) (hrn : roots.length <= 1000000) (sh : ∀ e,e ∈ L -> ShE e) (S : Te w A m) (I : Ixs w v Q L) (hr : MsAt w rv roots) :
    Calls Tryz.prog 32 #[v,rv] w fun e w'=>∃ a c x,e = .returned (.tuple #[.slice a (bX Q L roots).length c,x]) /\ Mr w w' (.slice a (bX Q L roots).length c) (bX Q L roots) /\ ErrAt w' A x (rF Q L roots).1 (rF Q L roots).2:=by
  by_cases h : (chkG Q L roots).1 = 0
  · refine (build_good Q L roots v rv A m w hn hrn sh S I hr h).mono ?_
    rintro e w' ⟨u,E,rfl,hbt,hm⟩
    have he:=bt_bX I h hbt
    subst he
    obtain ⟨a,c,hu⟩:=hm.sl
    subst hu
    exact ⟨a,c,_,rfl,hm,by rw [rF_good h]; rfl⟩
  · refine (build_bad Q L roots v rv A m w hn hrn sh S I hr h).mono ?_
    rintro e w' ⟨T,a,rfl,he,hb⟩
    rw [bX_bad h,rF_bad h]
    exact ⟨_,_,_,rfl,mr_nil0 hb,he⟩
theorem rX_mem {w : World} {v : Value} {Q : List Raw} {L : List Ent} {roots : List Bm} (I : Ixs w v Q L) (h : (chkG Q L roots).1 = 0) {m : Bm} : m ∈ rX Q L roots ↔ Rch (reqQ Q L) roots m:=by
  unfold rX
  rw [if_pos h,List.mem_filter]
  constructor
  · rintro ⟨_,h1⟩; simpa using h1
  · intro h1; exact ⟨rch_univ I h h1,by simpa using h1⟩
theorem bX_univ {Q : List Raw} {L : List Ent} {roots : List Bm} : ∀ m,m ∈ bX Q L roots -> m ∈ univ L:=fun m hm=>(rX_in ((bX_jn Q L roots).sub m hm).1).2
theorem bX_over {w : World} {v : Value} {Q : List Raw} {L : List Ent} {roots A : List Bm} (I : Ixs w v Q L) (h : (chkG Q L roots).1 = 0) (hA : ∀ m,m ∈ A -> Rch (reqQ Q L) roots m) : undB A (bX Q L roots) = true:=
  (bX_jn Q L roots).over fun m hm=>⟨(rX_mem I h).2 (hA m hm),univ_right (chkG_chk h) m (rch_univ I h (hA m hm))⟩
theorem bX_in {w : World} {v : Value} {Q : List Raw} {L : List Ent} {roots : List Bm} (I : Ixs w v Q L) (h : (chkG Q L roots).1 = 0) {m : Bm} (hm : m ∈ bX Q L roots) : Rch (reqQ Q L) roots m:=(rX_mem I h).1 ((bX_jn Q L roots).sub m hm).1
end Ve
end Go.Proofs.YtlcffhadobhfkaaGreatDoor
