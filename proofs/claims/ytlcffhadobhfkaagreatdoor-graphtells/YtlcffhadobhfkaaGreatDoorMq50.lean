/-
  GtC GtE
-/
import Derived.Test.YtlcffhadobhfkaaGreatDoorMq3
import Derived.Test.YtlcffhadobhfkaaGreatDoorMq2
import Derived.Test.YtlcffhadobhfkaaGreatDoorMq5
import Derived.Test.YtlcffhadobhfkaaGreatDoorMq6
import Derived.Test.YtlcffhadobhfkaaGreatDoorMq9
import Derived.Test.YtlcffhadobhfkaaGreatDoorMq11
import Derived.Test.YtlcffhadobhfkaaGreatDoorMq18
import Derived.Test.YtlcffhadobhfkaaGreatDoorMq19
import Derived.Test.YtlcffhadobhfkaaGreatDoorMq20
import Derived.Test.YtlcffhadobhfkaaGreatDoorMq23
import Derived.Test.YtlcffhadobhfkaaGreatDoorMq16
import Derived.Test.YtlcffhadobhfkaaGreatDoorMq1
import Derived.Test.YtlcffhadobhfkaaGreatDoorMq22
import Derived.Test.YtlcffhadobhfkaaGreatDoorMq34
import Derived.Test.YtlcffhadobhfkaaGreatDoorMq39
import Derived.Test.YtlcffhadobhfkaaGreatDoorMq47
import Derived.Test.YtlcffhadobhfkaaGreatDoorMq43
import Derived.Test.YtlcffhadobhfkaaGreatDoorMq44
import Derived.Test.YtlcffhadobhfkaaGreatDoorMq45
import Derived.Test.YtlcffhadobhfkaaGreatDoorMq49
import Derived.Test.YtlcffhadobhfkaaGreatDoorMq37
namespace Go.Proofs.YtlcffhadobhfkaaGreatDoor
open Go.RowKit Go.Maps
namespace Ve
theorem rch_uni {w : World} {v : Value} {Q : List Raw} {L : List Ent} {roots : List Bm} (I : Ixs w v Q L) (h : (chkG Q L roots).1 = 0) {m : Bm} (hm : Rch (reqQ Q L) roots m) : m ∈ univ L:=by
  have r:=rgt_of I h
  induction hm with
  | root hr=>exact r.r _ hr
  | step _ hr ih=>exact chk_reqs0 I r.c _ ih _ hr
set_option maxRecDepth 100000 in
set_option maxHeartbeats 4000000 in
theorem farOf_bad (Q : List Raw) (L : List Ent) (roots : List Bm) (m : Bm) (v rv : Value) (w : World) (hn : L.length <= 1000) (hrn : roots.length <= 1000000) (sh : ∀ e,e ∈ L -> ShE e) (I : Ixs w v Q L) (hr : MsAt w rv roots) (h0 : (chkG Q L roots).1 ≠ 0) :
    Calls Tryz.prog 27 #[v,rv,.agg #[.string m.1,.string m.2]] w fun e w'=>e = .returned (.tuple #[.int .i64 0,faultV (chkG Q L roots)]) /\ Below w.heap.size w w':=by
  have HRO:=hid (fun W (h : Below w.heap.size w W)=>reachOf_bad Q L roots v rv W hn hrn sh (I.below h) (hr.below h) h0)
  obtain ⟨mp,mq⟩:=m
  have HBm:=hid ((Below.refl w.heap.size w).alloc (Nat.le_refl _) (.cells #[.string mp,.string mq] 25))
  have HB0:=hid (HBm.out.alloc HBm.out.size (.cells #[.int .i64 0,.int .i64 0] 36))
  have HM0:=hid (heap_old (w.alloc (.cells #[.string mp,.string mq] 25)) (.cells #[.int .i64 0,.int .i64 0] 36) (heap_new w (.cells #[.string mp,.string mq] 25)))
  have HE0:=hid (show ((w.alloc (.cells #[.string mp,.string mq] 25)).alloc (.cells #[.int .i64 0,.int .i64 0] 36)).heap[w.heap.size + 1]? = some (.cells #[.int .i64 0,.int .i64 0] 36 (0,0)) by
    have h:=heap_new (w.alloc (.cells #[.string mp,.string mq] 25)) (.cells #[.int .i64 0,.int .i64 0] 36)
    have e : (w.alloc (.cells #[.string mp,.string mq] 25)).heap.size = w.heap.size + 1:=by simp
    rw [e] at h
    exact h)
  simp only
  obtain ⟨a,c,hv1,-⟩:=id I.es
  subst hv1
  obtain ⟨ra,rc,hrv,-⟩:=id hr
  subst hrv
  obtain ⟨cc,oo,hco⟩ : ∃ cc oo,chkG Q L roots = (cc,oo):=⟨_,_,rfl⟩
  rw [hco] at HRO h0 ⊢
  unfold faultV at HRO ⊢
  simp only at HRO h0 ⊢
  generalize atOf oo = ao at *
  have hpos : (0 : Int) < (cc : Int):=by omega
  clear I hr sh h0 hco
  go_enter Tryz.func27,Tryz.ntmps27
  go_wp2_with fail
  refine (HRO.out _ HB0.out).mono ?_
  rintro e w1 ⟨rfl,hb⟩
  have HB1:=hid (HB0.out.trans (hb.mono HB0.out.size))
  have HE1:=hid ((hb.block _ (lt_of_blk HE0.out)).trans HE0.out)
  have HB2:=hid (HB1.out.alloc HB1.out.size (.cells #[.int .i64 (cc : Int),.int .i64 ao] 36))
  have HE2:=hid (heap_old w1 (.cells #[.int .i64 (cc : Int),.int .i64 ao] 36) HE1.out)
  have HF2:=hid (heap_new w1 (.cells #[.int .i64 (cc : Int),.int .i64 ao] 36))
  have hlt:=lt_of_blk HE1.out
  have hne : ¬ w1.heap.size = w.heap.size + 1:=by omega
  have hne2 : ¬ w.heap.size + 1 = w1.heap.size:=by omega
  have HM1:=hid ((hb.block _ (lt_of_blk HM0.out)).trans HM0.out)
  clear hb
  go_wp2_with fail
  generalize w1.alloc (.cells #[.int .i64 (cc : Int),.int .i64 ao] 36) = w2 at *
  obtain ⟨s0,s1,tf⟩:=box_two HE2.out
  obtain ⟨f0,f1,_⟩:=box_two HF2.out
  go_region_with fail
  all_goals
    go_wp2_with fail
    refine bodyPost_ret (v:=.tuple #[.int .i64 0,.agg #[.int .i64 (cc : Int),.int .i64 ao]]) (by simp [results,Tryz.results27,go_sem,s0,s1]) rfl ⟨rfl,?_⟩
    exact put2_below (below_drawn_of HB2.out 1) (Nat.le_succ _)
theorem iwc_set (F : List Nat) (a n : Nat) : (iwc F).setIfInBounds a (.int .i64 (n : Int)) = iwc (F.set a n):=by
  unfold iwc
  rw [List.setIfInBounds_toArray,List.map_set]
theorem iwc_at {W : World} {g : Nat} {F : List Nat} (h : W.heap[g]? = some (.cells (iwc F) 3 (0,0))) {a : Nat} (ha : a < F.length) : W.cell? ⟨g,a,none⟩ = some (.int .i64 (F[a] : Int)):=by
  rw [Lib.cell_of_heap h]
  simp [iwc,ha]
theorem made_ints (n : Nat) : madeCells (Value.int .i64 0).cells n = iwc (List.replicate n 0):=by
  unfold madeCells iwc
  simp [Value.cells]
  apply Array.ext
  · simp
  · intro i h1 h2
    simp [Nat.mod_one]
theorem make_ints (n : Nat) (w : World) (hn : n <= 1000000) : (Instr.makeSlice 90 (.int .i64 (n : Int)) (.int .i64 (n : Int))).run Tryz.prog w = .ok (.slice (some ⟨w.heap.size,0,none⟩) n n) (w.alloc (.cells (iwc (List.replicate n 0)) 3)):=by
  obtain ⟨i0,hi,hz0,hz1,hz2⟩:=info_parts infoInt
  have h:=run_makeSlice (P:=Tryz.prog) w 90 3 i0 (.int .i64 0) Tryz.underlying90 hi hz0 .i64 .i64 (n : Int) (n : Int) (by omega) (by omega) (by rw [hz1]; simp; omega) (by rw [hz2]; omega) (by omega)
  rw [hz1] at h
  simp only [Int.toNat_natCast,Nat.mul_one] at h
  rw [made_ints] at h
  exact h
theorem Fas.put {w W : World} {g : Nat} {Q : List Raw} {L : List Ent} {roots : List Bm} {n i k : Nat} {F : List Nat} (h : Fas w W g Q L roots n i F) {a : Nat} {x : Value} (hx : x = .int .i64 (k : Int)) (hf : Fr (reqQ Q L) (univ L) roots n i (F.set a k)) : Fas w (W.setCell ⟨g,a,none⟩ x) g Q L roots n i (F.set a k):=
  ⟨h.gg,h.bl.setCell (by rw [h.gg]; exact Nat.le_refl _) _,by rw [set_block h.hp,hx,iwc_set],hf⟩
theorem AtF.set {U : List Bm} {F : List Nat} {m : Bm} (h : AtF U F m) (a n : Nat) : AtF U (F.set a (n + 1)) m:=by
  obtain ⟨k,hk,hk',e1,e2⟩:=h
  refine ⟨k,hk,by rw [List.length_set]; exact hk',e1,?_⟩
  by_cases hka : a = k
  · subst hka; rw [List.getElem_set_self]; omega
  · rw [List.getElem_set_ne hka]; exact e2
theorem AtF.new {U : List Bm} {F : List Nat} {a : Nat} (n : Nat) (ha : a < U.length) (hl : F.length = U.length) : AtF U (F.set a (n + 1)) U[a]:=
  ⟨a,ha,by rw [List.length_set,hl]; exact ha,rfl,by rw [List.getElem_set_self]; omega⟩
def FarR (Q : List Raw) (L : List Ent) (roots : List Bm) (m : Bm) (d : Nat) (f : Value) : Prop:=
  (¬ Rch (reqQ Q L) roots m /\ d = 0 /\ f = .agg #[.int .i64 5,.int .i64 (-1)]) \/ (Dst (reqQ Q L) roots m d /\ f = .agg #[.int .i64 0,.int .i64 (-1)])
set_option maxRecDepth 100000 in
set_option maxHeartbeats 8000000 in
theorem farOf_good (Q : List Raw) (L : List Ent) (roots : List Bm) (m : Bm) (v rv : Value) (w : World) (hn : L.length ≤ 1000) (hrn : roots.length ≤ 1000000) (sh : ∀ e, e ∈ L → ShE e) (I : Ixs w v Q L) (hr : MsAt w rv roots) (h0 : (chkG Q L roots).1 = 0) :
    Calls Tryz.prog 27 #[v,rv,.agg #[.string m.1,.string m.2]] w fun e w'=>∃ (d : Nat) (f : Value),e = .returned (.tuple #[.int .i64 (d : Int),f]) /\ FarR Q L roots m d f /\ Below w.heap.size w w':=by
  have HRO:=hid (fun W (h : Below w.heap.size w W)=>reachOf_good Q L roots v rv W hn hrn sh (I.below h) (hr.below h) h0)
  obtain ⟨mp,mq⟩:=m
  have HBm:=hid ((Below.refl w.heap.size w).alloc (Nat.le_refl _) (.cells #[.string mp,.string mq] 25))
  have HB0:=hid (HBm.out.alloc HBm.out.size (.cells #[.int .i64 0,.int .i64 0] 36))
  have HM0:=hid (heap_old (w.alloc (.cells #[.string mp,.string mq] 25)) (.cells #[.int .i64 0,.int .i64 0] 36) (heap_new w (.cells #[.string mp,.string mq] 25)))
  have HE0:=hid (show ((w.alloc (.cells #[.string mp,.string mq] 25)).alloc (.cells #[.int .i64 0,.int .i64 0] 36)).heap[w.heap.size + 1]? = some (.cells #[.int .i64 0,.int .i64 0] 36 (0,0)) by
    have h:=heap_new (w.alloc (.cells #[.string mp,.string mq] 25)) (.cells #[.int .i64 0,.int .i64 0] 36)
    have e : (w.alloc (.cells #[.string mp,.string mq] 25)).heap.size = w.heap.size + 1:=by simp
    rw [e] at h
    exact h)
  have HLN:=hid I.ln
  have hqn : Q.length <= 1000:=by rw [I.ln]; exact hn
  have HUL:=hid (show (univ L).length = Q.length by rw [I.ln]; simp [univ])
  have HC:=hid (rgt_of I h0).c
  have HND:=hid (univ_nd HC.out)
  have HRU:=hid (rgt_of I h0).r
  have HUN:=hid (fun x (hx : Rch (reqQ Q L) roots x)=>rch_uni I h0 hx)
  have HFO:=hid (fun x W (h : Below w.heap.size w W)=>findOf_all Q x v W (by omega) (I.below h).es)
  have HIU:=hid (fun x (hm : x ∈ univ L)=>idx_univ I hm)
  have HFI:=hid (found_iff I (mp,mq))
  have HMR:=hid (fun W (h : Below w.heap.size w W)=>hr.below h)
  have HI:=hid I
  have HSZ:=hid sh
  obtain ⟨a,c,hv1,-⟩:=id I.es
  subst hv1
  obtain ⟨ra,rc,hrv,-⟩:=id hr
  subst hrv
  clear I hr sh h0 hn
  simp only
  go_enter Tryz.func27,Tryz.ntmps27
  go_wp2_with fail
  refine (HRO.out _ HB0.out).mono ?_
  rintro e w1 ⟨u,O,rfl,-,-,hown,hb⟩
  obtain ⟨oa,on,oc,hov⟩:=own_sl hown
  subst hov
  have HB1:=hid (HB0.out.trans (hb.mono HB0.out.size))
  have HE1:=hid ((hb.block _ (lt_of_blk HE0.out)).trans HE0.out)
  clear hown HRO
  have HB2:=hid (HB1.out.alloc HB1.out.size (.cells #[.int .i64 0,.int .i64 (-1)] 36))
  have HE2:=hid (heap_old w1 (.cells #[.int .i64 0,.int .i64 (-1)] 36) HE1.out)
  have HF2:=hid (heap_new w1 (.cells #[.int .i64 0,.int .i64 (-1)] 36))
  have hlt:=lt_of_blk HE1.out
  have hne : ¬ w1.heap.size = w.heap.size + 1:=by omega
  have hne2 : ¬ w.heap.size + 1 = w1.heap.size:=by omega
  have HM1:=hid ((hb.block _ (lt_of_blk HM0.out)).trans HM0.out)
  clear hb
  have HW2:=hid (show (w1.alloc (.cells #[.int .i64 0,.int .i64 (-1)] 36)).heap.size = w1.heap.size + 1 by simp)
  have hmk:=make_ints Q.length (w1.alloc (.cells #[.int .i64 0,.int .i64 (-1)] 36)) (by omega)
  go_wp2_with fail
  clear hmk
  have HBG:=hid (show ∀ W,Below (w1.alloc (.cells #[.int .i64 0,.int .i64 (-1)] 36)).heap.size (w1.alloc (.cells #[.int .i64 0,.int .i64 (-1)] 36)) W -> Below w.heap.size w W from fun W h=>HB2.out.trans (h.mono HB2.out.size))
  have HM2:=hid (heap_old w1 (.cells #[.int .i64 0,.int .i64 (-1)] 36) HM1.out)
  have HS0:=hid (show Fas (w1.alloc (.cells #[.int .i64 0,.int .i64 (-1)] 36)) ((w1.alloc (.cells #[.int .i64 0,.int .i64 (-1)] 36)).alloc (.cells (iwc (List.replicate Q.length 0)) 3)) (w1.heap.size + 1) Q L roots 0 0 (List.replicate Q.length 0) from ⟨HW2.out,(Below.refl _ _).alloc (Nat.le_refl _) _,by
    have h:=heap_new (w1.alloc (.cells #[.int .i64 0,.int .i64 (-1)] 36)) (.cells (iwc (List.replicate Q.length 0)) 3)
    rw [HW2.out] at h
    exact h,by rw [<- HUL.out]; exact Fr.none _ _ _⟩)
  have HWL:=hid (show w.heap.size + 1 < (w1.alloc (.cells #[.int .i64 0,.int .i64 (-1)] 36)).heap.size by rw [HW2.out]; omega)
  generalize (w1.alloc (.cells #[.int .i64 0,.int .i64 (-1)] 36)) = w2 at *
  generalize w1.heap.size + 1 = g at *
  clear HW2 HF2 HE1 HM1 HB1 hne hne2 hlt HE0 HM0 HB0 HBm
  go_loopw [11] (fun iv wr=>∃ k : Nat,k <= roots.length /\ iv = .int .i64 k /\ Hid (∃ F,Fas w2 wr g Q L roots 0 0 F /\ ∀ j (h : j < roots.length),j < k -> AtF (univ L) F roots[j])) (fun iv _=>roots.length - (intOf iv).toNat)
  case atStart=>exact ⟨0,Nat.zero_le _,rfl,hid ⟨_,HS0.out,fun j _ h=>absurd h (Nat.not_lt_zero _)⟩⟩
  case round=>
    clear HS0
    obtain ⟨k,hk,rfl,HO⟩:=hrel
    obtain ⟨F,hF,hAt⟩:=HO.out
    by_cases hlt : k < roots.length
    · have hkI : (k : Int) < (roots.length : Int):=by omega
      have hk0 : (0 : Int) <= (k : Int):=by omega
      obtain ⟨xb,xo,hxa,y0,y1⟩:=(HMR.out _ (HBG.out _ hF.bl)).cells hlt
      subst hxa
      obtain ⟨n,hnU,e1,e2⟩:=HIU.out roots[k] (HRU.out _ (List.getElem_mem hlt))
      have HFF:=hid (HFO.out roots[k] _ (HBG.out _ hF.bl))
      rw [e1] at HFF
      have hnq : n < Q.length:=by rw [<- HUL.out]; exact hnU
      have hnI : (n : Int) < (Q.length : Int):=by omega
      have hn0 : (0 : Int) <= (n : Int):=by omega
      have HLT:=hid hlt
      have hFl : F.length = (univ L).length:=hF.ok.ln
      have HNX:=hid (fun W (hb : Below wr.heap.size wr W)=>show ∃ F',Fas w2 (W.setCell ⟨g,n,none⟩ (.int .i64 1)) g Q L roots 0 0 F' /\ ∀ j (h : j < roots.length),j < k + 1 -> AtF (univ L) F' roots[j] from ⟨F.set n 1,(hF.below hb).put rfl (hF.ok.root hnU (by rw [e2]; exact List.getElem_mem hlt)),fun j h1 h2=>by
        rcases Nat.lt_or_ge j k with h | h
        · exact (hAt j h1 h).set n 0
        · have : j = k:=by omega
          subst this
          rw [<- e2]; exact AtF.new 0 hnU hFl⟩)
      have HCE:=hid (fun W (hb : Below wr.heap.size wr W)=>show W.cell? ⟨g,n,none⟩ = some (.int .i64 ((F[n]'(by rw [hFl]; exact hnU) : Nat) : Int)) /\ ∀ o,W.frozen? ⟨g,o,none⟩ = false from ⟨iwc_at (hF.below hb).hp _,fun o=>Lib.frozen_of_heap (hF.below hb).hp o⟩)
      generalize (F[n]'(by rw [hFl]; exact hnU)) = bo at *
      generalize roots[k] = x at *
      obtain ⟨x1,x2⟩:=x
      clear hlt e1 e2 hF hAt hFl HO hnU
      go_wp2_with fail
      refine HFF.out.mono ?_
      rintro e w3 ⟨rfl,hb⟩
      obtain ⟨z0,zf⟩:=HCE.out w3 hb
      have HN2:=hid (HNX.out w3 hb)
      clear hb
      go_wp2_with fail
      go_roundw
      case rel=>first | exact ⟨k + 1,HLT.out,nr_idx k,HN2⟩ | exact ⟨k + 1,HLT.out,nx_idx HLT.out hrn,HN2⟩
      case measure=>first | exact nr_meas HLT.out | exact nx_meas HLT.out hrn
    · have hkI : ¬ (k : Int) < (roots.length : Int) := by omega
      have HO2:=hid (show ∃ F,Fas w2 wr g Q L roots 1 0 F from ⟨F,hF.fr (hF.ok.first fun j hj hj' hm=>by
        obtain ⟨t,ht,e⟩:=List.getElem_of_mem hm
        have h1:=hAt t ht (by omega)
        rw [e] at h1
        exact h1.at HND.out hj hj')⟩)
      clear hlt hF hAt HO
      go_wp2_with fail
      go_loopw [12] (fun nv wr=>∃ n : Nat,1 <= n /\ n <= Q.length + 1 /\ nv = .int .i64 n /\ Hid (∃ F,Fas w2 wr g Q L roots n 0 F)) (fun nv _=>Q.length + 1 - (intOf nv).toNat)
      case atStart=>exact ⟨1,Nat.le_refl _,by omega,rfl,HO2⟩
      case round=>
        clear HO2
        obtain ⟨n,hn1,hn2,rfl,HO3⟩:=hrel
        by_cases hlt : n < Q.length + 1
        · have hnI : (n : Int) ≤ (Q.length : Int) := by omega
          have HLN1:=hid hlt
          go_wp2_with fail
          go_loopw [13] (fun iv wr=>∃ i : Nat,i <= Q.length /\ iv = .int .i64 i /\ Hid (∃ F,Fas w2 wr g Q L roots n i F)) (fun iv _=>Q.length - (intOf iv).toNat)
          case atStart=>exact ⟨0,Nat.zero_le _,rfl,HO3⟩
          case round=>
            clear HO3
            obtain ⟨i,hi,rfl,HO5⟩:=hrel
            by_cases hlti : i < Q.length
            · have hiI : (i : Int) < (Q.length : Int) := by omega
              have hi0 : (0 : Int) <= (i : Int):=by omega
              have HLI:=hid hlti
              have hil : i < L.length:=by rw [<- HLN.out]; exact hlti
              have hiU : i < (univ L).length:=by rw [HUL.out]; exact hlti
              have HCE:=hid (fun W (h : Below w.heap.size w W)=>es_cells (HI.out.below h).es hlti)
              have HMS:=hid (fun W (h : Below w.heap.size w W)=>((HI.out.below h).ok i hlti hil).rq)
              have HRQ:=hid (show ∀ (h : i < (univ L).length),reqQ Q L (univ L)[i] = L[i].2.1 from fun h=>req_at HI.out HC.out hil h)
              have hRl:=(HSZ.out L[i] (List.getElem_mem hil)).rn
              have HRX:=hid (show ∀ x,x ∈ L[i].2.1 -> x ∈ univ L from fun x hx=>chk_reqs0 HI.out HC.out _ (List.getElem_mem hiU) x (by rw [HRQ.out]; exact hx))
              generalize (L[i]'hil).2.1 = R at *
              generalize (Q[i]'hlti).2.1 = qv at *
              obtain ⟨qa,qc,hqv,-⟩:=HMS.out w (Below.refl _ _)
              subst hqv
              obtain ⟨eb,eo,hea,-⟩:=HCE.out w (Below.refl _ _)
              subst hea
              have HX2:=hid (fun W (h : Below w.heap.size w W)=>show W.cell? ⟨eb,eo + i * 5 + 2,none⟩ = some (.slice qa R.length qc) by
                obtain ⟨eb',eo',e,h2⟩:=HCE.out W h
                injection e with e
                injection e with e1 e2
                subst e1 e2
                exact h2)
              have HIU2:=hid hiU
              clear hlti hil hiU HCE hlt
              go_wp2_with fail
              go_loopw [14] (fun kv wr=>∃ k : Nat,k <= R.length /\ kv = .int .i64 k /\ Hid (∃ F,Fas w2 wr g Q L roots n i F /\ ∀ j (h : j < R.length),j < k -> AtF (univ L) F R[j])) (fun kv _=>R.length - (intOf kv).toNat)
              case atStart=>
                obtain ⟨F,hF⟩:=HO5.out
                exact ⟨0,Nat.zero_le _,rfl,hid ⟨F,hF,fun j _ hj=>absurd hj (Nat.not_lt_zero _)⟩⟩
              case round=>
                clear HO5
                obtain ⟨k,hk,rfl,HO6⟩:=hrel
                obtain ⟨F,hF,hA⟩:=HO6.out
                have hFl : F.length = (univ L).length:=hF.ok.ln
                have hiF : i < F.length:=by rw [hFl]; exact HIU2.out
                have z0:=iwc_at hF.hp hiF
                have x2:=HX2.out _ (HBG.out _ hF.bl)
                by_cases hfi : F[i] = n
                · rw [hfi] at z0
                  have hWi : Wn (reqQ Q L) roots n ((univ L)[i]'HIU2.out):=by
                    have:=hF.ok.so i HIU2.out hiF (by omega)
                    rw [hfi] at this
                    exact this
                  by_cases hlk : k < R.length
                  · have hkI : (k : Int) < (R.length : Int):=by omega
                    have hk0 : (0 : Int) <= (k : Int):=by omega
                    obtain ⟨xb,xo,hxa,y0,y1⟩:=(HMS.out _ (HBG.out _ hF.bl)).cells hlk
                    subst hxa
                    obtain ⟨t,htU,e1,e2⟩:=HIU.out R[k] (HRX.out _ (List.getElem_mem hlk))
                    have HFF:=hid (HFO.out R[k] _ (HBG.out _ hF.bl))
                    rw [e1] at HFF
                    have htq : t < Q.length:=by rw [<- HUL.out]; exact htU
                    have htI : (t : Int) < (Q.length : Int):=by omega
                    have ht0 : (0 : Int) <= (t : Int):=by omega
                    have htF : t < F.length:=by rw [hFl]; exact htU
                    have HLK:=hid hlk
                    have hWt : Wn (reqQ Q L) roots (n + 1) (univ L)[t]:=by
                      have hmm : R[k] ∈ reqQ Q L ((univ L)[i]'HIU2.out):=by
                        rw [HRQ.out HIU2.out]; exact List.getElem_mem hlk
                      rw [e2]
                      exact .step hWi hmm
                    by_cases hft : F[t] = 0
                    · have HNX:=hid (fun W x (hx : x = .int .i64 ((n + 1 : Nat) : Int)) (hb : Below wr.heap.size wr W)=>show ∃ F',Fas w2 (W.setCell ⟨g,t,none⟩ x) g Q L roots n i F' /\ ∀ j (h : j < R.length),j < k + 1 -> AtF (univ L) F' R[j] from
                        ⟨F.set t (n + 1),(hF.below hb).put hx (hF.ok.set htU htF hft hWt),fun j h1 h2=>by
                          rcases Nat.lt_or_ge j k with h | h
                          · exact (hA j h1 h).set t n
                          · have : j = k:=by omega
                            subst this
                            rw [<- e2]; exact AtF.new n htU hFl⟩)
                      have HCL:=hid (fun W (hb : Below wr.heap.size wr W)=>show W.cell? ⟨g,t,none⟩ = some (.int .i64 0) /\ ∀ o,W.frozen? ⟨g,o,none⟩ = false from ⟨by rw [iwc_at (hF.below hb).hp htF,hft]; rfl,fun o=>Lib.frozen_of_heap (hF.below hb).hp o⟩)
                      generalize R[k] = x at *
                      obtain ⟨x1,x2'⟩:=x
                      clear hlk e1 e2 hF hA hFl hiF hft htF htU hWt hWi hfi HO6
                      go_wp2_with fail
                      refine HFF.out.mono ?_
                      rintro e w3 ⟨rfl,hb⟩
                      obtain ⟨t0,tf⟩:=HCL.out w3 hb
                      have HN1:=hid (fun x hx=>HNX.out w3 x hx hb)
                      clear hb
                      go_wp2_with fail
                      go_roundw
                      case rel=>first | exact ⟨k + 1,HLK.out,nr_idx k,hid (HN1.out _ rfl)⟩ | exact ⟨k + 1,HLK.out,nr_idx k,hid (HN1.out _ (nx_idx HLN1.out (by omega)))⟩ | exact ⟨k + 1,HLK.out,nx_idx HLK.out hRl,hid (HN1.out _ rfl)⟩ | exact ⟨k + 1,HLK.out,nx_idx HLK.out hRl,hid (HN1.out _ (nx_idx HLN1.out (by omega)))⟩
                      case measure=>first | exact nr_meas HLK.out | exact nx_meas HLK.out hRl
                    · have HNX:=hid (fun W (hb : Below wr.heap.size wr W)=>show ∃ F',Fas w2 W g Q L roots n i F' /\ ∀ j (h : j < R.length),j < k + 1 -> AtF (univ L) F' R[j] from
                        ⟨F, hF.below hb, fun j h1 h2 => by
                          rcases Nat.lt_or_ge j k with h | h
                          · exact hA j h1 h
                          · have : j = k:=by omega
                            subst this
                            exact ⟨t,htU,htF,e2,hft⟩⟩)
                      have HCL:=hid (fun W (hb : Below wr.heap.size wr W)=>show W.cell? ⟨g,t,none⟩ = some (.int .i64 ((F[t] : Nat) : Int)) from iwc_at (hF.below hb).hp htF)
                      have hft2 : ¬ ((F[t] : Nat) : Int) = 0:=by omega
                      generalize F[t] = ft at *
                      generalize R[k] = x at *
                      obtain ⟨x1,x2'⟩:=x
                      clear hlk e1 e2 hF hA hFl hiF hft htF htU hWt hWi hfi HO6
                      go_wp2_with fail
                      refine HFF.out.mono ?_
                      rintro e w3 ⟨rfl,hb⟩
                      have t0:=HCL.out w3 hb
                      have HN2:=hid (HNX.out w3 hb)
                      clear hb
                      go_wp2_with fail
                      go_roundw
                      case rel=>first | exact ⟨k + 1,HLK.out,nr_idx k,HN2⟩ | exact ⟨k + 1,HLK.out,nx_idx HLK.out hRl,HN2⟩
                      case measure=>first | exact nr_meas HLK.out | exact nx_meas HLK.out hRl
                  · have hkI : ¬ (k : Int) < (R.length : Int):=by omega
                    have HE:=hid (show ∃ F,Fas w2 wr g Q L roots n (i + 1) F from ⟨F,hF.fr (hF.ok.next fun hi hi' _ x hx=>by
                      rw [HRQ.out] at hx
                      obtain ⟨t,ht2,rfl⟩:=List.getElem_of_mem hx
                      exact hA t ht2 (by omega))⟩)
                    clear hlk hF hA hFl hiF hWi hfi HO6
                    go_wp2_with fail
                    go_roundw
                    case rel=>first | exact ⟨i + 1,HLI.out,nr_idx i,HE⟩ | exact ⟨i + 1,HLI.out,nx_idx HLI.out (by omega),HE⟩
                    case measure=>first | exact nr_meas HLI.out | exact nx_meas HLI.out (by omega)
                · have hfi2 : ¬ ((F[i] : Nat) : Int) = (n : Int):=by omega
                  have HE:=hid (show ∃ F,Fas w2 wr g Q L roots n (i + 1) F from ⟨F,hF.fr (hF.ok.next fun hi hi' e=>absurd e hfi)⟩)
                  generalize F[i] = fi at *
                  clear hF hA hFl hiF hfi HO6
                  go_wp2_with fail
                  go_roundw
                  case rel=>first | exact ⟨i + 1,HLI.out,nr_idx i,HE⟩ | exact ⟨i + 1,HLI.out,nx_idx HLI.out (by omega),HE⟩
                  case measure=>first | exact nr_meas HLI.out | exact nx_meas HLI.out (by omega)
            · have hiI : ¬ (i : Int) < (Q.length : Int):=by omega
              have hie : i = Q.length:=by omega
              have HE:=hid (show ∃ F,Fas w2 wr g Q L roots (n + 1) 0 F by
                obtain ⟨F,hF⟩:=HO5.out
                rw [hie,<- HUL.out] at hF
                exact ⟨F,hF.fr (hF.ok.turn hn1 HND.out HUN.out)⟩)
              clear hlti HO5 hlt
              go_wp2_with fail
              go_roundw
              case rel=>first | exact ⟨n + 1,by omega,HLN1.out,nr_idx n,HE⟩ | exact ⟨n + 1,by omega,HLN1.out,nx_idx HLN1.out (by omega),HE⟩
              case measure=>first | exact nr_meas HLN1.out | exact nx_meas HLN1.out (by omega)
        · have hnI : ¬ (n : Int) <= (Q.length : Int):=by omega
          obtain ⟨F,hF⟩:=HO3.out
          have hFl : F.length = (univ L).length:=hF.ok.ln
          have HUn : (univ L).length <= n:=by rw [HUL.out]; omega
          have hMw:=(hF.bl.block _ (Nat.lt_of_le_of_lt (Nat.le_succ _) HWL.out)).trans HM2.out
          have hEw:=(hF.bl.block _ HWL.out).trans HE2.out
          obtain ⟨p0,p1,-⟩:=box_two hMw
          have HFF:=hid (HFO.out (mp,mq) _ (HBG.out _ hF.bl))
          have HBw:=hid (HBG.out _ hF.bl)
          have HEw:=hid hEw
          have HBA:=hid (fun W=>rbare_any 5 W)
          have HFN:=hid (fun W=>fine_any W)
          rcases idx_nat (isM (mp,mq)) Q with hix | ⟨t,hix⟩
          · rw [hix] at HFF
            have HNR:=hid (show ¬ Rch (reqQ Q L) roots (mp,mq) from fun h=>by
              obtain ⟨k,hk⟩:=HFI.out.1 (HUN.out _ h)
              rw [hix] at hk; omega)
            clear hF hFl HUn hMw hEw HO3 hix hlt
            go_wp2_with fail
            refine HFF.out.mono ?_
            rintro e w3 ⟨rfl,hb⟩
            have HB3:=hid (HBw.out.trans (hb.mono HBw.out.size))
            have HE3:=hid ((hb.block _ (lt_of_blk HEw.out)).trans HEw.out)
            clear hb
            go_wp2_with fail
            refine (HBA.out _).mono ?_
            rintro e w4 ⟨rfl,hb⟩
            have HB4:=hid (HB3.out.trans (hb.mono HB3.out.size))
            have HE4:=hid ((hb.block _ (lt_of_blk HE3.out)).trans HE3.out)
            clear hb
            obtain ⟨s0,s1,tf⟩:=box_two HE4.out
            go_wp2_with fail
            refine bodyPost_ret (v:=.tuple #[.int .i64 0,.agg #[.int .i64 5,.int .i64 (-1)]]) (by simp [results,Tryz.results27,go_sem,s0,s1]) rfl ⟨0,_,rfl,Or.inl ⟨HNR.out,rfl,rfl⟩,?_⟩
            exact put2_below HB4.out (Nat.le_succ _)
          · rw [hix] at HFF
            have htm : (mp,mq) ∈ univ L:=HFI.out.2 ⟨t,hix⟩
            obtain ⟨t',htU,e1,e2⟩:=HIU.out _ htm
            have htt : t' = t:=by rw [hix] at e1; omega
            subst htt
            have htF : t' < F.length:=by rw [hFl]; exact htU
            have htq : t' < Q.length:=by rw [<- HUL.out]; exact htU
            have htI : (t' : Int) < (Q.length : Int):=by omega
            have ht0 : (0 : Int) <= (t' : Int):=by omega
            have ht1 : ¬ (t' : Int) < 0:=by omega
            have HCL:=hid (fun W (hb : Below wr.heap.size wr W)=>show W.cell? ⟨g,t',none⟩ = some (.int .i64 ((F[t'] : Nat) : Int)) from iwc_at (hF.below hb).hp htF)
            by_cases hft : F[t'] = 0
            · rw [hft] at HCL
              have HNR:=hid (show ¬ Rch (reqQ Q L) roots (mp,mq) by rw [<- e2]; exact (hF.ok.zero HUn HUN.out htU htF).1 hft)
              clear hF hFl HUn hMw hEw HO3 hix hlt htm htU e1 e2 htF hft
              go_wp2_with fail
              refine HFF.out.mono ?_
              rintro e w3 ⟨rfl,hb⟩
              have HB3:=hid (HBw.out.trans (hb.mono HBw.out.size))
              have HE3:=hid ((hb.block _ (lt_of_blk HEw.out)).trans HEw.out)
              have t0 : w3.cell? ⟨g,t',none⟩ = some (.int .i64 0):=HCL.out w3 hb
              clear hb
              go_wp2_with fail
              refine (HBA.out _).mono ?_
              rintro e w4 ⟨rfl,hb⟩
              have HB4:=hid (HB3.out.trans (hb.mono HB3.out.size))
              have HE4:=hid ((hb.block _ (lt_of_blk HE3.out)).trans HE3.out)
              clear hb
              obtain ⟨s0,s1,tf⟩:=box_two HE4.out
              go_wp2_with fail
              refine bodyPost_ret (v:=.tuple #[.int .i64 0,.agg #[.int .i64 5,.int .i64 (-1)]]) (by simp [results,Tryz.results27,go_sem,s0,s1]) rfl ⟨0,_,rfl,Or.inl ⟨HNR.out,rfl,rfl⟩,?_⟩
              exact put2_below HB4.out (Nat.le_succ _)
            · have HDS:=hid (show Dst (reqQ Q L) roots (mp,mq) F[t'] by rw [<- e2]; exact hF.ok.dst HUn HUN.out htU htF hft)
              have hft2 : ¬ ((F[t'] : Nat) : Int) = 0:=by omega
              generalize F[t'] = ft at *
              clear hF hFl HUn hMw hEw HO3 hix hlt htm htU e1 e2 htF hft
              go_wp2_with fail
              refine HFF.out.mono ?_
              rintro e w3 ⟨rfl,hb⟩
              have HB3:=hid (HBw.out.trans (hb.mono HBw.out.size))
              have HE3:=hid ((hb.block _ (lt_of_blk HEw.out)).trans HEw.out)
              have t0:=HCL.out w3 hb
              have HC3:=hid hb
              clear hb
              go_wp2_with fail
              go_region_with (go_at_call 64; refine (HFN.out _).mono ?_; rintro e w4 ⟨rfl,hb⟩; have HB34:=hid ((below_drawn w3 1).trans (hb.mono (below_drawn w3 1).size)); have HB4:=hid (HB3.out.trans (HB34.out.mono HB3.out.size)); have t1:=HCL.out w4 (HC3.out.trans (HB34.out.mono HC3.out.size)); obtain ⟨s0,s1,tf⟩:=box_two ((HB34.out.block _ (lt_of_blk HE3.out)).trans HE3.out); clear hb)
              all_goals
                go_wp2_with fail
                refine bodyPost_ret (v:=.tuple #[.int .i64 (ft : Int),.agg #[.int .i64 0,.int .i64 (-1)]]) (by simp [results,Tryz.results27,go_sem,s0,s1]) rfl ⟨ft,_,rfl,Or.inr ⟨HDS.out,rfl⟩,?_⟩
                exact put2_below HB4.out (Nat.le_succ _)
end Ve
end Go.Proofs.YtlcffhadobhfkaaGreatDoor
namespace Go.Proofs.YtlcffhadobhfkaaGreatDoor
open Go.RowKit Go.Maps
namespace Ve
open Classical in
noncomputable def rW (Q : List Raw) (L : List Ent) (roots : List Bm) (m : Bm) : Nat × (Nat × Option Nat):=if (chkG Q L roots).1 = 0 then (if h : ∃ d,Dst (reqQ Q L) roots m d then (h.choose,(0,none)) else (0,(5,none))) else (0,chkG Q L roots)
theorem rW_same {Q Q' : List Raw} {L : List Ent} (h : Q.map (fun r=>r.1) = Q'.map (fun r=>r.1)) (roots : List Bm) (m : Bm) : rW Q L roots m = rW Q' L roots m:=by unfold rW; rw [chkG_same h,reqQ_same h]
theorem rW_bad {Q : List Raw} {L : List Ent} {roots : List Bm} {m : Bm} (h : ¬ (chkG Q L roots).1 = 0) : rW Q L roots m = (0,chkG Q L roots):=if_neg h
theorem rW_some {Q : List Raw} {L : List Ent} {roots : List Bm} {m : Bm} {d : Nat} (h : (chkG Q L roots).1 = 0) (hd : Dst (reqQ Q L) roots m d) : rW Q L roots m = (d,(0,none)):=by
  unfold rW
  have he : ∃ d,Dst (reqQ Q L) roots m d:=⟨d,hd⟩
  rw [if_pos h,dif_pos he]
  rw [he.choose_spec.one hd]
theorem rW_none {Q : List Raw} {L : List Ent} {roots : List Bm} {m : Bm} (h : (chkG Q L roots).1 = 0) (hd : ¬ Rch (reqQ Q L) roots m) : rW Q L roots m = (0,(5,none)):=by
  unfold rW
  rw [if_pos h,dif_neg (fun ⟨d,hh⟩=>hd hh.1.rch)]
theorem rW_le (Q : List Raw) (L : List Ent) (roots : List Bm) (m : Bm) : (rW Q L roots m).2.1 <= 10:=by
  unfold rW
  split
  · split <;> simp
  · exact chkG_le _ _ _
theorem edges_all (Q : List Raw) (L : List Ent) (roots : List Bm) (v rv : Value) (A : Nat -> Addr) (m : Int) (w : World) (hn : L.length <= 1000) (hrn : roots.length <= 1000000) (sh : ∀ e,e ∈ L -> ShE e) (S : Te w A m) (I : Ixs w v Q L) (hr : MsAt w rv roots) :
    Calls Tryz.prog 24 #[v,rv] w fun e w'=>∃ x,e = .returned (.tuple #[.int .i64 (sumM (reqQ Q L) (rX Q L roots) : Nat),x]) /\ ErrAt w' A x (rF Q L roots).1 (rF Q L roots).2 /\ Below w.heap.size w w':=by
  by_cases h : (chkG Q L roots).1 = 0
  · refine (edges_good Q L roots v rv A m w hn hrn sh S I hr h).mono ?_
    rintro e w' ⟨T,rfl,hT,hb⟩
    rw [edges_sum I (rgt_of I h).c,rX_go I h hT]
    exact ⟨_,rfl,by rw [rF_good h]; rfl,hb⟩
  · refine (edges_bad Q L roots v rv A m w hn hrn sh S I hr h).mono ?_
    rintro e w' ⟨T,a,rfl,he,hb⟩
    rw [rX_bad h,rF_bad h]
    exact ⟨_,rfl,he,hb⟩
set_option maxRecDepth 100000 in
set_option maxHeartbeats 2000000 in
theorem way_bad (Q : List Raw) (L : List Ent) (roots : List Bm) (x : Bm) (v rv : Value) (A : Nat -> Addr) (m : Int) (w : World) (hn : L.length <= 1000) (hrn : roots.length <= 1000000) (sh : ∀ e,e ∈ L -> ShE e) (S : Te w A m) (I : Ixs w v Q L) (hr : MsAt w rv roots) (h0 : ¬ (chkG Q L roots).1 = 0) :
    Calls Tryz.prog 26 #[v,rv,.agg #[.string x.1,.string x.2]] w fun e w'=>∃ T a,e = .returned (.tuple #[.slice none 0 0,.iface T (.pointer (some a))]) /\ ErrAt w' A (.iface T (.pointer (some a))) (chkG Q L roots).1 (chkG Q L roots).2 /\ Below w.heap.size w w':=by
  have hBa:=(Below.refl w.heap.size w).alloc (Nat.le_refl _) (.cells #[.string x.1,.string x.2] 25)
  have HBa:=hid hBa
  have HCK:=hid (gcheck_any Q L roots v rv A m _ hn hrn sh (S.below hBa) (I.below hBa) (hr.below hBa))
  obtain ⟨a,c,hv,-⟩:=id I.es
  subst hv
  obtain ⟨ra,rc,hrv,-⟩:=id hr
  subst hrv
  have HH0:=hid h0
  clear S I hr sh h0 hBa
  go_enter Tryz.func26,Tryz.ntmps26
  go_wp2_with fail
  refine HCK.out.mono ?_
  rintro e w1 ⟨y,rfl,he,hb⟩
  have HB1:=hid (HBa.out.trans (hb.mono (by simp)))
  have HE:=hid he
  rcases he.kind with ⟨h,_⟩ | ⟨_,T,xa,rfl⟩
  · exact absurd h HH0.out
  clear hb he HCK
  go_wp2_with fail
  go_ret2
  exact ⟨_,_,rfl,HE.out,HB1.out⟩
theorem way_all (Q : List Raw) (L : List Ent) (roots : List Bm) (x : Bm) (v rv : Value) (A : Nat -> Addr) (m : Int) (w : World) (hn : L.length <= 1000) (hrn : roots.length <= 1000000) (sh : ∀ e,e ∈ L -> ShE e) (S : Te w A m) (I : Ixs w v Q L) (hr : MsAt w rv roots) (hx : x.1.size <= maxLen /\ x.2.size <= maxLen) :
    Calls Tryz.prog 26 #[v,rv,.agg #[.string x.1,.string x.2]] w fun e w'=>∃ a c y,e = .returned (.tuple #[.slice a (rW Q L roots x).1 c,y]) /\ ErrAt w' A y (rW Q L roots x).2.1 (rW Q L roots x).2.2 /\ Below w.heap.size w w':=by
  by_cases h : (chkG Q L roots).1 = 0
  · by_cases hr2 : Rch (reqQ Q L) roots x
    · refine (way_some Q L roots x v rv A m w hn hrn sh S I hr h hx hr2).mono ?_
      rintro e w' ⟨u,rfl,Y,hms,hw,_,hb⟩
      rw [rW_some h hw.ds]
      obtain ⟨a,c,rfl,-⟩:=hms
      exact ⟨a,c,_,rfl,rfl,hb⟩
    · refine (way_none Q L roots x v rv A m w hn hrn sh S I hr h hx hr2).mono ?_
      rintro e w' ⟨a,rfl,rfl,hb⟩
      rw [rW_none h hr2]
      exact ⟨_,_,_,rfl,rfl,hb⟩
  · refine (way_bad Q L roots x v rv A m w hn hrn sh S I hr h).mono ?_
    rintro e w' ⟨T,a,rfl,he,hb⟩
    rw [rW_bad h]
    exact ⟨_,_,_,rfl,he,hb⟩
theorem farOf_all (Q : List Raw) (L : List Ent) (roots : List Bm) (x : Bm) (v rv : Value) (w : World) (hn : L.length <= 1000) (hrn : roots.length <= 1000000) (sh : ∀ e,e ∈ L -> ShE e) (I : Ixs w v Q L) (hr : MsAt w rv roots) :
    Calls Tryz.prog 27 #[v,rv,.agg #[.string x.1,.string x.2]] w fun e w'=>e = .returned (.tuple #[.int .i64 ((rW Q L roots x).1 : Nat),faultV (rW Q L roots x).2]) /\ Below w.heap.size w w':=by
  by_cases h : (chkG Q L roots).1 = 0
  · refine (farOf_good Q L roots x v rv w hn hrn sh I hr h).mono ?_
    rintro e w' ⟨d,f,rfl,hR,hb⟩
    rcases hR with ⟨hno,rfl,rfl⟩ | ⟨hd,rfl⟩
    · rw [rW_none h hno]; exact ⟨rfl,hb⟩
    · rw [rW_some h hd]; exact ⟨rfl,hb⟩
  · refine (farOf_bad Q L roots x v rv w hn hrn sh I hr h).mono ?_
    rintro e w' ⟨rfl,hb⟩
    rw [rW_bad h]
    exact ⟨rfl,hb⟩
end Ve
end Go.Proofs.YtlcffhadobhfkaaGreatDoor
