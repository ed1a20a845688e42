/-
  GrA VerO VerR LawM GrH MlA MlP OrdC
-/
import Derived.Test.YtlcffhadobhfkaaGreatDoorMq2
import Derived.Test.YtlcffhadobhfkaaGreatDoorMq6
import Derived.Test.YtlcffhadobhfkaaGreatDoorMq3
import Derived.Test.YtlcffhadobhfkaaGreatDoorMq13
import Derived.Test.YtlcffhadobhfkaaGreatDoorMq9
import Derived.Test.YtlcffhadobhfkaaGreatDoorMq5
import Derived.Test.YtlcffhadobhfkaaGreatDoorMq11
import Derived.Test.YtlcffhadobhfkaaGreatDoorMq18
import Derived.Test.YtlcffhadobhfkaaGreatDoorMq19
import Derived.Test.YtlcffhadobhfkaaGreatDoorMq20
import Derived.Test.YtlcffhadobhfkaaGreatDoorMq23
import Derived.Test.YtlcffhadobhfkaaGreatDoorMq22
import Derived.Test.YtlcffhadobhfkaaGreatDoorMq45
import Derived.Test.YtlcffhadobhfkaaGreatDoorMq34
import Derived.Test.YtlcffhadobhfkaaGreatDoorMq37
import Derived.Test.YtlcffhadobhfkaaGreatDoorMq27
namespace Go.Proofs.YtlcffhadobhfkaaGreatDoor
namespace Ve
theorem Rch.again {req : Bm -> List Bm} {r x : List Bm} (hx : ∀ m,m ∈ x ↔ Rch req r m) {m : Bm} : Rch req x m ↔ Rch req r m:=by
  constructor
  · intro h
    induction h with
    | root hr=>exact (hx _).1 hr
    | step _ hr ih=>exact .step ih hr
  · intro h
    exact .root ((hx m).2 h)
open Go.RowKit
theorem pre_parts {ps : List (List UInt8)} (h : pre ps = 0) : ∀ p,p ∈ ps -> part p = 0:=by
  intro p hp
  unfold pre at h
  rw [preTo_worst _ (by split <;> simp)] at h
  unfold worst at h
  have hm : part p ∈ ps.map part:=List.mem_map_of_mem hp
  rcases part_err p with e | e | e
  · exact e
  · rw [e] at hm; rw [if_pos (Or.inr hm)] at h; cases h
  · rw [e] at hm
    exfalso
    generalize (if 5 < ps.length then 2 else 0) = q at h
    by_cases g : q = 1 \/ 1 ∈ ps.map part
    · rw [if_pos g] at h; omega
    · rw [if_neg g,if_pos (Or.inr hm)] at h; omega
theorem cb_more (a b : List UInt8) : (!(Op.bytesLess a b || a == b)) = decide (0 < Lib.compareBytes a b):=by
  rw [cb_less]
  have e : (a == b) = decide (Lib.compareBytes a b = 0):=by
    rw [Bool.eq_iff_iff]; simp [cb_zero]
  rw [e]
  rcases cb_range a b with h | h | h <;> rw [h] <;> rfl
theorem ci_gt {x y : Int} (h : y < x) : Lib.compareInt x y = 1:=by unfold Lib.compareInt; rw [if_neg (by omega),if_pos h]
theorem valTo_cmp : ∀ (p q : List UInt8) (n m : Int), p.length = q.length → p.all dig = true → q.all dig = true →
    (n < m -> valTo n p < valTo m q) /\ (m < n -> valTo m q < valTo n p) /\ (n = m -> Lib.compareInt (valTo n p) (valTo m q) = Lib.compareBytes p q)
  | [],[],n,m,_,_,_=>⟨fun h=>h,fun h=>h,fun h=>by subst h; exact ci_self _⟩
  | [],_ :: _,_,_,h,_,_=>by simp at h
  | _ :: _,[],_,_,h,_,_=>by simp at h
  | c :: p, d :: q, n, m, h, hp, hq => by
    simp only [List.all_cons,Bool.and_eq_true] at hp hq
    have hc:=dig_bd hp.1
    have hd:=dig_bd hq.1
    obtain ⟨i1,i2,i3⟩:=valTo_cmp p q (10 * n + ((c.toNat : Int) - 48)) (10 * m + ((d.toNat : Int) - 48)) (by simpa using h) hp.2 hq.2
    have e1 : valTo n (c :: p) = valTo (10 * n + ((c.toNat : Int) - 48)) p:=rfl
    have e2 : valTo m (d :: q) = valTo (10 * m + ((d.toNat : Int) - 48)) q:=rfl
    rw [e1,e2]
    refine ⟨fun h=>i1 (by omega),fun h=>i2 (by omega),fun h=>?_⟩
    subst h
    unfold Lib.compareBytes
    by_cases h1 : c < d
    · rw [if_pos h1]
      have : c.toNat < d.toNat:=UInt8.lt_iff_toNat_lt.1 h1
      exact ci_lt (i1 (by omega))
    · rw [if_neg h1]
      by_cases h2 : d < c
      · rw [if_pos h2]
        have : d.toNat < c.toNat:=UInt8.lt_iff_toNat_lt.1 h2
        exact ci_gt (i2 (by omega))
      · rw [if_neg h2]
        have:=u8_eq h1 h2
        subst this
        exact i3 rfl
theorem num0 {p : List UInt8} (h : (num p).2 = 0) : digs p = true /\ zero p = false /\ (num p).1 = valTo 0 p /\ p.all dig = true:=by
  have hd : digs p = true:=by
    cases e : digs p
    · unfold num at h; rw [e] at h; simp at h
    · rfl
  have hz : zero p = false:=by
    cases e : zero p
    · rfl
    · unfold num at h; rw [e] at h; simp at h
  have h6:=num_six p hd hz
  have : ¬ 6 < p.length:=by
    intro hh; rw [if_pos hh] at h6; rw [h6] at h; cases h
  rw [if_neg this] at h6
  refine ⟨hd,hz,by rw [h6],?_⟩
  unfold digs at hd
  simp only [Bool.and_eq_true] at hd
  exact hd.2
theorem val_len {p q : List UInt8} (hp : p.all dig = true) (hq : q.all dig = true) (hz : zero q = false) (h : p.length < q.length) (h0 : 0 < p.length) : valTo 0 p < valTo 0 q:=by
  have b1:=(valTo_bd p 0 hp (by omega)).2
  cases q with
  | nil=>simp at h
  | cons c r=>
    simp only [List.all_cons,Bool.and_eq_true] at hq
    have hc:=dig_bd hq.1
    have hr : 1 < (c :: r).length:=by simp at h ⊢; omega
    have hne : c ≠ 48:=by
      intro e
      unfold zero at hz
      rw [decide_eq_true hr,e] at hz
      simp at hz
    have hn : c.toNat ≠ 48:=fun e=>hne (UInt8.toNat_inj.1 (by rw [e]; rfl))
    have b2:=(valTo_bd r (10 * 0 + ((c.toNat : Int) - 48)) hq.2 (by omega)).1
    have e : valTo 0 (c :: r) = valTo (10 * 0 + ((c.toNat : Int) - 48)) r:=rfl
    rw [e]
    have h4 : (10 : Int) ^ p.length <= 10 ^ r.length:=by
      have : (10 : Nat) ^ p.length <= 10 ^ r.length:=Nat.pow_le_pow_right (by omega) (by simp at h; omega)
      exact_mod_cast this
    have h5 : (1 : Int) * 10 ^ r.length <= (10 * 0 + ((c.toNat : Int) - 48)) * 10 ^ r.length:=Int.mul_le_mul_of_nonneg_right (by omega) (by
      have : (0 : Int) < 10 ^ r.length:=Int.pow_pos (by omega)
      omega)
    omega
theorem num_cmp {p q : List UInt8} (hp : (num p).2 = 0) (hq : (num q).2 = 0) : Lib.compareInt (num p).1 (num q).1 = fst (Lib.compareInt p.length q.length) (Lib.compareBytes p q):=by
  obtain ⟨p1,p2,p3,p4⟩:=num0 hp
  obtain ⟨q1,q2,q3,q4⟩:=num0 hq
  have lp : 0 < p.length:=by unfold digs at p1; simp at p1; exact p1.1
  have lq : 0 < q.length:=by unfold digs at q1; simp at q1; exact q1.1
  rw [p3,q3]
  rcases Nat.lt_trichotomy p.length q.length with h | h | h
  · rw [ci_lt (val_len p4 q4 q2 h lp),ci_lt (by omega)]; rfl
  · rw [h,ci_self,fst0]
    exact (valTo_cmp p q 0 0 h p4 q4).2.2 rfl
  · rw [ci_gt (val_len q4 p4 p2 h lq),ci_gt (by omega)]; rfl
theorem part_num {p : List UInt8} (h : part p = 0) (hd : digs p = true) : (num p).2 = 0:=by
  unfold part at h
  split at h
  · cases h
  · rw [if_neg (by rw [hd]; simp)] at h; exact h
def ordPartN (a b : List UInt8) : Int:=
  if digs a then (if digs b then Lib.compareInt (num a).1 (num b).1 else -1) else if digs b then 1 else Lib.compareBytes a b
theorem ordPart_num {a b : List UInt8} (ha : part a = 0) (hb : part b = 0) : ordPartN a b = ordPart a b:=by
  unfold ordPartN ordPart
  by_cases h1 : digs a = true
  · rw [if_pos h1,if_pos h1]
    by_cases h2 : digs b = true
    · rw [if_pos h2,if_pos h2,num_cmp (part_num ha h1) (part_num hb h2)]
    · rw [if_neg h2,if_neg h2]
  · rw [if_neg h1,if_neg h1]
def fpE (L : List Bm) (p : ByteArray) (i : Nat) : Nat:=match L[i]? with
  | some m=>if m.1 = p then 1 else 0
  | none=>0
def fpOf (L : List Bm) (p : ByteArray) : Int:=match fstE (fpE L p) L.length with
  | some k=>(k : Int)
  | none=>-1
theorem fpE_at {L : List Bm} {p : ByteArray} {i : Nat} (h : i < L.length) : fpE L p i = if L[i].1 = p then 1 else 0:=by unfold fpE; rw [List.getElem?_eq_getElem h]
theorem fpE_zero {L : List Bm} {p : ByteArray} {n : Nat} (hn : n <= L.length) (h : ∀ j (hj : j < L.length),j < n -> L[j].1 ≠ p) : ∀ j,j < n -> fpE L p j = 0:=fun j hj=>by rw [fpE_at (by omega),if_neg (h j (by omega) hj)]
set_option maxHeartbeats 1000000 in
theorem fp_some (L : List Bm) (p : ByteArray) (b o c : Nat) (w : World) (hn : L.length ≤ 1000000)
    (hc : ∀ j (h : j < L.length),w.cell? ⟨b,o + j * 2,none⟩ = some (.string L[j].1) /\ w.cell? ⟨b,o + j * 2 + 1,none⟩ = some (.string L[j].2)) :
    Calls Tryz.prog 96 #[.slice (some ⟨b,o,none⟩) L.length c,.string p] w fun e w'=>e = .returned (.int .i64 (fpOf L p)) /\ w' = w:=by
  have HC:=hid hc
  generalize hr : fpOf L p = r
  have HR:=hid hr
  clear hc hr
  go_enter Tryz.func96,Tryz.ntmps96
  go_wp2_with fail
  go_loop [5] (fun i=>∃ k : Nat,k <= L.length /\ i = .int .i64 k /\ Hid (∀ j (h : j < L.length),j < k -> L[j].1 ≠ p)) (fun i=>L.length - (intOf i).toNat)
  case atStart=>exact ⟨0,Nat.zero_le _,rfl,hid (fun j _ hj=>absurd hj (by omega))⟩
  case round=>
    obtain ⟨k,hk,rfl,HA⟩:=hrel
    by_cases hlt : k < L.length
    · have hx:=(HC.out k hlt).1
      have hkI : (k : Int) < (L.length : Int):=by omega
      by_cases he : L[k].1 = p
      · have HF:=hid (show fpOf L p = k by unfold fpOf; rw [fstE_some (fpE_zero (by omega) HA.out) (by rw [fpE_at hlt,if_pos he]; decide) hlt])
        rw [he] at hx
        have hq:=str_refl p
        clear he
        go_wp2_with fail
        go_ret
        exact ⟨by rw [<- HR.out,HF.out]; rfl,rfl⟩
      · have hq:=str_ne he
        have HE:=hid he
        clear he
        go_wp2_with fail
        go_round
        case rel=>exact ⟨k + 1,by omega,by go_num,hid (fun j hj hjk=>by
          rcases Nat.lt_or_ge j k with h | h
          · exact HA.out j hj h
          · have : j = k:=by omega
            subst this; exact HE.out)⟩
        case measure=>simp [intOf]; omega
    · have HF:=hid (show fpOf L p = -1 by unfold fpOf; rw [fstE_none (fpE_zero (Nat.le_refl _) (fun j hj _=>HA.out j hj (by omega)))])
      go_wp2_with fail
      go_ret
      exact ⟨by rw [<- HR.out,HF.out]; rfl,rfl⟩
theorem fp_none (p : ByteArray) (a : Option Addr) (c : Nat) (w : World) : Calls Tryz.prog 96 #[.slice a 0 c,.string p] w fun e w'=>e = .returned (.int .i64 (-1)) /\ w' = w:=by
  go_enter Tryz.func96,Tryz.ntmps96
  go_wp2_with fail
  go_loop [5] (fun i=>i = .int .i64 0) (fun i=>0)
  case atStart=>exact rfl
  case round=>
    obtain rfl:=hrel
    go_wp2_with fail
    go_ret
    exact ⟨rfl,rfl⟩
theorem fp_is (L : List Bm) (p : ByteArray) (v : Value) (w : World) (hn : L.length <= 1000000) (hv : MsAt w v L) : Calls Tryz.prog 96 #[v,.string p] w fun e w'=>e = .returned (.int .i64 (fpOf L p)) /\ w' = w:=by
  obtain ⟨a,c,rfl,_,h⟩:=hv
  cases L with
  | nil=>exact fp_none p a c w
  | cons x r=>
    obtain ⟨b,o,rfl,h2⟩:=h (by simp)
    exact fp_some (x :: r) p b o c w hn h2
open Go.Maps
def putM (W : World) (b : Nat) (m : Bm) : World:=(W.setCell ⟨b,0,none⟩ (.string m.1)).setCell ⟨b,1,none⟩ (.string m.2)
theorem putM_block {W : World} {b : Nat} {c0 c1 : Value} {t : TypeId} (m : Bm) (h : W.heap[b]? = some (.cells #[c0,c1] t (0,0))) : (putM W b m).heap[b]? = some (.cells #[.string m.1,.string m.2] t (0,0)):=by
  unfold putM
  have h1:=set_block (o:=0) (x:=.string m.1) h
  have h2:=set_block (o:=1) (x:=.string m.2) h1
  simpa using h2
theorem putM_other {W : World} {b g : Nat} (m : Bm) (h : g ≠ b) : (putM W b m).heap[g]? = W.heap[g]?:=by
  unfold putM
  rw [Below.heap_setCell _ _ _ _ h,Below.heap_setCell _ _ _ _ h]
theorem putM_size (W : World) (b : Nat) (m : Bm) : (putM W b m).heap.size = W.heap.size:=by simp [putM,World.setCell]
theorem Wst.more {w0 W w6 : World} {req : Bm -> List Bm} {T : By} {x : Bm} {mb : Nat} {yv yv' : Value} {k : Nat} {V : List Bm} {o : Obj} (h : Wst w0 W req T x mb yv k V) (hk : k < T.length) {j : Nat} (hj : j < k) (e1 : (T[j]'(Nat.lt_trans hj hk)).1 = T[k].2) (e2 : T[k].1 ∈ req T[k].2)
    (hown : w6.ownsRow (w0.heap.size + 1) 25 2 yv' (V.length + 1) (flatM V ++ [.string T[k].2.1,.string T[k].2.2])) (hg : ((putM W w0.heap.size T[k].2).alloc o).grownBy w6 yv.ownBlock) :
    Wst w0 w6 req T x mb yv' j (V ++ [T[k].2]):=by
  obtain ⟨hk',hc⟩:=h.xc
  have hs:=h.bl.size
  have l1:=lt_of_blk hc
  obtain ⟨es,clock,hm1⟩:=h.mp.block
  have l2:=lt_of_blk hm1
  have n1 : w0.heap.size ≠ mb:=h.mp.ne hc
  have r1 : yv.ownBlock ≠ some w0.heap.size:=fun hh=>by have:=(h.row.lt _ hh).1; omega
  have r2 : yv.ownBlock ≠ some mb:=fun hh=>by
    obtain ⟨hl,⟨h1,_⟩ | ⟨g',cap,cur,q1,q2,q3,_⟩⟩:=h.row
    · rw [h1] at hh; cases hh
    · rw [q1] at hh
      have : g' = mb:=by simpa [Value.ownBlock] using hh
      exact h.mp.ne q3 this
  have al:=(Below.refl (putM W w0.heap.size T[k].2).heap.size (putM W w0.heap.size T[k].2)).alloc (Nat.le_refl _) o
  have keep : ∀ b,b < W.heap.size -> yv.ownBlock ≠ some b -> w6.heap[b]? = (putM W w0.heap.size T[k].2).heap[b]?:=fun b hb hr=>by
    rw [hg.block b (by simp [putM_size]; omega) (fun e=>hr e.symm),al.block b (by rw [putM_size]; exact hb)]
  have b1 : Below w0.heap.size w0 (putM W w0.heap.size T[k].2):=(h.bl.setCell (p:=⟨w0.heap.size,0,none⟩) (Nat.le_refl _) _).setCell (p:=⟨w0.heap.size,1,none⟩) (Nat.le_refl _) _
  have b2 : Below w0.heap.size w0 w6:=(b1.alloc b1.size o).grown hg (by simp [putM_size]; omega) (fun q hq=>by have:=(h.row.lt q hq).1; omega)
  refine ⟨b2,?_,?_,⟨Nat.lt_trans hj hk,?_⟩,?_,?_⟩
  · rw [List.reverse_append,List.reverse_singleton,<- e1]
    exact Wy.next h.wy hk hj e1 e2
  · have:=h.ln; simp; omega
  · rw [keep _ l1 r1,e1]; exact putM_block _ hc
  · exact (h.mp.heap (putM_other _ (Ne.symm n1))).heap (keep mb l2 r2)
  · rw [List.length_append,flatM_app]
    exact hown
theorem fpOf_kind (L : List Bm) (p : ByteArray) : (fpOf L p = -1 /\ ∀ x,x ∈ L -> decide (x.1 = p) = false) \/ ∃ k,∃ hk : k < L.length,fpOf L p = (k : Int) /\ decide (L[k].1 = p) = true /\ ∀ j (hj : j < L.length),j < k -> decide (L[j].1 = p) = false:=by
  unfold fpOf
  cases h : fstE (fpE L p) L.length with
  | none=>
    refine Or.inl ⟨rfl,fun x hx=>decide_eq_false fun e=>?_⟩
    obtain ⟨j,hj,rfl⟩:=List.getElem_of_mem hx
    have:=fstE_of_none h j hj
    rw [fpE_at hj,if_pos e] at this; cases this
  | some k=>
    obtain ⟨h1,h2,h3⟩:=fstE_of_some h
    refine Or.inr ⟨k,h1,rfl,decide_eq_true ?_,fun j hj hjk=>decide_eq_false fun e=>?_⟩
    · rw [fpE_at h1] at h2
      by_cases e : L[k].1 = p
      · exact e
      · rw [if_neg e] at h2; exact absurd rfl h2
    · have:=h3 j hjk
      rw [fpE_at hj,if_pos e] at this; cases this
theorem Bt.has {w : World} {v : Value} {Q : List Raw} {L : List Ent} {roots E : List Bm} (I : Ixs w v Q L) (h : Bt Q L roots E) (h0 : (chkG Q L roots).1 = 0) {A : List Bm} (hA : ∀ m,m ∈ A -> Rch (reqQ Q L) roots m) : undB A E = true:=by
  obtain ⟨T,c,j,_⟩:=h.c
  exact j.over fun m hm=>⟨(bt_mem I c).2 (hA m hm),univ_right (rgt_of I h0).c m (rch_univ I h0 (hA m hm))⟩
theorem Bt.again {w : World} {v : Value} {Q : List Raw} {L : List Ent} {roots E E' : List Bm} (I : Ixs w v Q L) (h : Bt Q L roots E) (h' : Bt Q L E E') : E' = E:=by
  obtain ⟨T,c,j,_⟩:=h.c
  obtain ⟨T',c',j',_⟩:=h'.c
  have up : ∀ x,Rch (reqQ Q L) E x -> Rch (reqQ Q L) roots x:=fun x hx=>by
    induction hx with
    | root hr=>exact h.in_ I hr
    | step _ hr ih=>exact .step ih hr
  have jE : Jn (goM T' Q) E:=⟨j.ri,fun e he=>⟨(bt_mem I c').2 (.root he),(j.sub e he).2⟩,fun x hx hr=>j.top x ((bt_mem I c).2 (up x ((bt_mem I c').1 hx))) hr⟩
  exact j'.one jE (fun _ _=>Iff.rfl)
theorem Bt.more {w : World} {v : Value} {Q : List Raw} {L : List Ent} {a b E F : List Bm} (I : Ixs w v Q L) (h : Bt Q L a E) (h' : Bt Q L (a ++ b) F) (h0 : (chkG Q L (a ++ b)).1 = 0) : undB E F = true:=
  h'.has I h0 fun _ hm=>(h.in_ I hm).mono fun _ hx=>List.mem_append_left _ hx
theorem ver_parts {l : List UInt8} (h : verErr l = 0) : ∀ p, p ∈ preOf l → part p = 0 := by
  intro p hp
  unfold verErr at h
  split at h
  · cases h
  · cases hh : hasPre l
    · unfold preOf at hp; rw [hh] at hp; simp at hp
    · rw [hh] at h
      simp only [if_true] at h
      refine pre_parts ?_ p hp
      unfold worse at h
      split at h
      · rename_i hc
        rcases hc with hc | hc
        · omega
        · exact hc
      · exact h
theorem sign_any (l m : Bool) (w : World) : Calls Tryz.prog 140 #[.bool l,.bool m] w fun e w'=>e = .returned (.int .i64 (if l then -1 else if m then 1 else 0)) /\ w' = w:=by
  cases l <;> cases m
  all_goals
    go_enter Tryz.func140,Tryz.ntmps140
    go_wp2
    go_ret
    exact ⟨rfl,rfl⟩
theorem sign_is (l m : Bool) (k : Int) (w : World) (hk : (if l then (-1 : Int) else if m then 1 else 0) = k) : Calls Tryz.prog 140 #[.bool l,.bool m] w fun e w'=>e = .returned (.int .i64 k) /\ w' = w:=by
  rw [<- hk]; exact sign_any l m w
theorem sign_int (x y : Int) : (if decide (x < y) then (-1 : Int) else if decide (x > y) then 1 else 0) = Lib.compareInt x y:=by
  unfold Lib.compareInt; simp
theorem sign_bytes (a b : List UInt8) : (if Op.bytesLess a b then (-1 : Int) else if !(Op.bytesLess a b || a == b) then 1 else 0) = Lib.compareBytes a b:=by
  rw [cb_more,cb_less]
  rcases cb_range a b with h | h | h <;> rw [h] <;> rfl
theorem toList_data (s : ByteArray) : s.toList = s.data.toList:=ByteArray.toList_eq s
set_option maxHeartbeats 1000000 in
theorem opart_any (s t : ByteArray) (w : World) (hs : s.size <= maxLen) (ht : t.size <= maxLen) :
    Calls Tryz.prog 141 #[.string s,.string t] w fun e w'=>e = .returned (.int .i64 (ordPartN s.data.toList t.data.toList)) /\ w' = w:=by
  have HO:=hid (show ordPartN s.data.toList t.data.toList = if digs s.data.toList then (if digs t.data.toList then Lib.compareInt (num s.data.toList).1 (num t.data.toList).1 else -1) else if digs t.data.toList then 1 else Lib.compareBytes s.data.toList t.data.toList from rfl)
  have HS:=hid (areDigits_any s w hs)
  have HT:=hid (areDigits_any t w ht)
  have NS:=hid (numberOf_any s w hs)
  have NT:=hid (numberOf_any t w ht)
  have HI:=hid (sign_int (num s.data.toList).1 (num t.data.toList).1)
  have HB:=hid ((sign_bytes s.toList t.toList).trans (by rw [toList_data,toList_data]))
  have hgt : ∀ W : World,(binOp BinOp.gtr 9 (.string s) (.string t)).run Tryz.prog W = .ok (.bool (!(Op.bytesLess s.toList t.toList || s.toList == t.toList))) W:=fun _=>rfl
  clear hs ht
  cases h1 : digs s.data.toList
  all_goals cases h2 : digs t.data.toList
  all_goals rw [h1] at HS HO
  all_goals rw [h2] at HT HO
  all_goals clear h1 h2
  · go_enter Tryz.func141,Tryz.ntmps141
    go_wp2_with fail
    refine HS.out.mono ?_
    rintro e w' ⟨rfl,rfl⟩
    go_wp2_with fail
    refine HT.out.mono ?_
    rintro e w' ⟨rfl,rfl⟩
    go_wp2_with fail
    refine (sign_is _ _ (Lib.compareBytes s.data.toList t.data.toList) _ ?hk).mono ?_
    case hk=>rw [<- Bool.not_or]; exact HB.out
    rintro e w' ⟨rfl,rfl⟩
    go_wp2_with fail
    go_ret
    exact ⟨ret_int (by rw [HO.out]; rfl),rfl⟩
  · go_enter Tryz.func141,Tryz.ntmps141
    go_wp2_with fail
    refine HS.out.mono ?_
    rintro e w' ⟨rfl,rfl⟩
    go_wp2_with fail
    refine HT.out.mono ?_
    rintro e w' ⟨rfl,rfl⟩
    go_wp2_with fail
    refine (sign_is _ _ 1 _ rfl).mono ?_
    rintro e w' ⟨rfl,rfl⟩
    go_wp2_with fail
    go_ret
    exact ⟨ret_int (by rw [HO.out]; rfl),rfl⟩
  · go_enter Tryz.func141,Tryz.ntmps141
    go_wp2_with fail
    refine HS.out.mono ?_
    rintro e w' ⟨rfl,rfl⟩
    go_wp2_with fail
    refine HT.out.mono ?_
    rintro e w' ⟨rfl,rfl⟩
    go_wp2_with fail
    refine (sign_is _ _ (-1) _ rfl).mono ?_
    rintro e w' ⟨rfl,rfl⟩
    go_wp2_with fail
    go_ret
    exact ⟨ret_int (by rw [HO.out]; rfl),rfl⟩
  · go_enter Tryz.func141,Tryz.ntmps141
    go_wp2_with fail
    refine HS.out.mono ?_
    rintro e w' ⟨rfl,rfl⟩
    go_wp2_with fail
    refine HT.out.mono ?_
    rintro e w' ⟨rfl,rfl⟩
    go_wp2_with fail
    refine NS.out.mono ?_
    rintro e w' ⟨rfl,rfl⟩
    go_wp2_with fail
    refine NT.out.mono ?_
    rintro e w' ⟨rfl,rfl⟩
    go_wp2_with fail
    refine (sign_is _ _ _ _ HI.out).mono ?_
    rintro e w' ⟨rfl,rfl⟩
    go_wp2_with fail
    go_ret
    exact ⟨ret_int (by rw [HO.out]; rfl),rfl⟩
theorem isVer_any (s : ByteArray) (w : World) (hs : s.size < 4294967281) :
    Calls Tryz.prog 97 #[.string s] w fun e w'=>e = .returned (.bool (decide (verErr s.data.toList = 0))) /\ Below w.heap.size w w':=by
  have HV:=hid (verOf_any s w hs)
  by_cases h : verErr s.data.toList = 0
  · have HH:=hid h
    clear h
    go_enter Tryz.func97,Tryz.ntmps97
    go_wp2_with fail
    refine HV.out.mono ?_
    rintro e w1 ⟨h1,hb⟩
    have HB:=hid hb
    clear hb
    rcases h1 with ⟨h1,_⟩ | ⟨_,sa,cap,X2,rfl,_⟩
    · exact absurd HH.out h1
    go_wp2_with fail
    go_ret
    exact ⟨ret_bool (by rw [HH.out]; rfl),HB.out.alloc HB.out.size _⟩
  · have HH:=hid h
    have hz : ((verErr s.data.toList : Int) == 0) = false:=beq_eq_false_iff_ne.2 (by omega)
    clear h
    go_enter Tryz.func97,Tryz.ntmps97
    go_wp2_with fail
    refine HV.out.mono ?_
    rintro e w1 ⟨h1,hb⟩
    have HB:=hid hb
    clear hb
    rcases h1 with ⟨_,rfl⟩ | ⟨h1,_⟩
    · go_wp2_with fail
      go_ret
      exact ⟨ret_bool (by rw [decide_eq_false HH.out]),HB.out.alloc HB.out.size _⟩
    · exact absurd h1 HH.out
end Ve
end Go.Proofs.YtlcffhadobhfkaaGreatDoor
