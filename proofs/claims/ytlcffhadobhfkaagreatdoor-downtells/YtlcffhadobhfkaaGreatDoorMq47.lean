/-
  RtB RtC
-/
import Derived.Test.YtlcffhadobhfkaaGreatDoorMq3
import Derived.Test.YtlcffhadobhfkaaGreatDoorMq5
import Derived.Test.YtlcffhadobhfkaaGreatDoorMq6
import Derived.Test.YtlcffhadobhfkaaGreatDoorMq9
import Derived.Test.YtlcffhadobhfkaaGreatDoorMq11
import Derived.Test.YtlcffhadobhfkaaGreatDoorMq2
import Derived.Test.YtlcffhadobhfkaaGreatDoorMq18
import Derived.Test.YtlcffhadobhfkaaGreatDoorMq19
import Derived.Test.YtlcffhadobhfkaaGreatDoorMq20
import Derived.Test.YtlcffhadobhfkaaGreatDoorMq23
import Derived.Test.YtlcffhadobhfkaaGreatDoorMq30
import Derived.Test.YtlcffhadobhfkaaGreatDoorMq1
import Derived.Test.YtlcffhadobhfkaaGreatDoorMq37
import Derived.Test.YtlcffhadobhfkaaGreatDoorMq39
import Derived.Test.YtlcffhadobhfkaaGreatDoorMq43
import Derived.Test.YtlcffhadobhfkaaGreatDoorMq46
namespace Go.Proofs.YtlcffhadobhfkaaGreatDoor
open Go.RowKit Go.Maps
namespace Ve
theorem put2_below {W w : World} {B b : Nat} {x y : Value} (h : Below B w W) (hb : B <= b) : Below B w ((W.setCell ⟨b,0,none⟩ x).setCell ⟨b,1,none⟩ y):=
  (h.setCell (p:=⟨b,0,none⟩) hb _).setCell (p:=⟨b,1,none⟩) hb _
theorem nonE_five {Q : List Raw} {R : List Bm} : codeE (nonE Q R) R.length = 0 \/ codeE (nonE Q R) R.length = 5:=by
  unfold codeE
  cases h : fstE (nonE Q R) R.length with
  | none=>exact Or.inl rfl
  | some j=>
    obtain ⟨h1,h2,_⟩:=fstE_of_some h
    show nonE Q R j = 0 \/ nonE Q R j = 5
    rw [nonE_at h1] at h2 ⊢
    unfold nonW at h2 ⊢
    by_cases h3 : idxOf (isM R[j]) Q < 0
    · rw [if_pos h3]; exact Or.inr rfl
    · rw [if_neg h3]; exact Or.inl rfl
theorem reqE2_bad {Q : List Raw} {L : List Ent} {i k : Nat} (hi : i < L.length) (hk : k < L[i].2.1.length) (h : idxOf (isM L[i].2.1[k]) Q < 0) : reqE2 Q L i = 5:=by
  rw [reqE2_at hi]
  rcases nonE_five (Q:=Q) (R:=L[i].2.1) with h1 | h1
  · exfalso
    unfold codeE at h1
    cases h2 : fstE (nonE Q L[i].2.1) L[i].2.1.length with
    | none=>
      have:=fstE_of_none h2 k hk
      rw [nonE_at hk] at this
      unfold nonW at this
      rw [if_pos h] at this; cases this
    | some j=>
      rw [h2] at h1
      exact (fstE_of_some h2).2.1 h1
  · exact h1
theorem reqE2_good {Q : List Raw} {L : List Ent} {i : Nat} (hi : i < L.length) (h : ∀ k (hk : k < L[i].2.1.length),0 <= idxOf (isM L[i].2.1[k]) Q) : reqE2 Q L i = 0:=by
  rw [reqE2_at hi]
  exact codeE_none (fstE_none fun j hj=>by
    rw [nonE_at hj]
    unfold nonW
    rw [if_neg (Int.not_lt.2 (h j hj))])
set_option maxRecDepth 100000 in
set_option maxHeartbeats 8000000 in
theorem iFault_some (Q : List Raw) (L : List Ent) (b o c : Nat) (w : World) (hn : L.length ≤ 1000) (sh : ∀ e, e ∈ L → ShE e) (I : Ixs w (.slice (some ⟨b, o, none⟩) Q.length c) Q L) (h0 : 0 < L.length) :
    Calls Tryz.prog 61 #[.slice (some ⟨b,o,none⟩) Q.length c] w fun e w'=>e = .returned (faultV (chk Q L)) /\ Below w.heap.size w w':=by
  have HLN:=hid I.ln
  have hqn : Q.length <= 1000:=by rw [I.ln]; exact hn
  have HB0:=hid ((Below.refl w.heap.size w).alloc (Nat.le_refl _) (.cells #[.int .i64 0,.int .i64 0] 36))
  have HE0:=hid (heap_new w (.cells #[.int .i64 0,.int .i64 0] 36))
  by_cases h1 : 100 < L.length
  · have q1 : (100 : Int) < (Q.length : Int):=by have:=HLN.out; omega
    have HBR:=hid (fun W=>rbare_any 7 W)
    have HX:=hid (chk_full (Q:=Q) h1)
    clear I sh h1
    go_enter Tryz.func61,Tryz.ntmps61
    go_wp2_with fail
    refine (HBR.out _).mono ?_
    rintro e w1 ⟨rfl,hb⟩
    have HB1:=hid (HB0.out.trans (hb.mono HB0.out.size))
    have HE1:=hid ((hb.block _ (lt_of_blk HE0.out)).trans HE0.out)
    clear hb
    have s0 : w1.cell? ⟨w.heap.size,0,none⟩ = some (.int .i64 0):=by rw [Lib.cell_of_heap HE1.out]; rfl
    have s1 : w1.cell? ⟨w.heap.size,1,none⟩ = some (.int .i64 0):=by rw [Lib.cell_of_heap HE1.out]; rfl
    have tf:=fun o=>Lib.frozen_of_heap HE1.out o
    go_wp2_with fail
    refine bodyPost_ret (v:=.agg #[.int .i64 7,.int .i64 (-1)]) (by simp [results,Tryz.results61,go_sem,s0,s1]) rfl ⟨by rw [HX.out]; rfl,?_⟩
    exact put2_below HB1.out (Nat.le_refl _)
  · have q1 : ¬ (100 : Int) < (Q.length : Int) := by have := HLN.out; omega
    have HEN:=hid (fun i (hi : i < L.length) W (h : Below w.heap.size w W)=>entE_any Q L _ i W hn sh (I.below h) hi)
    have HFO:=hid (fun m W (h : Below w.heap.size w W)=>findOf_any Q m _ W (by omega) (by have:=HLN.out; omega) (I.below h).es)
    have HFN:=hid (fun W=>fine_any W)
    have HI:=hid I
    have HSZ:=hid sh
    have H1:=hid h1
    clear I sh h1 hn h0
    go_enter Tryz.func61,Tryz.ntmps61
    go_wp2_with fail
    go_loopw [3] (fun iv wr=>∃ i : Nat,i <= Q.length /\ iv = .int .i64 i /\ Hid (∀ j,j < i -> entE L j = 0) /\ Hid (Below w.heap.size w wr) /\ Hid (wr.heap[w.heap.size]? = some (.cells #[.int .i64 0,.int .i64 0] 36 (0,0)))) (fun iv _=>Q.length - (intOf iv).toNat)
    case atStart=>exact ⟨0,Nat.zero_le _,rfl,hid (fun j h=>absurd h (Nat.not_lt_zero _)),HB0,HE0⟩
    case round=>
      obtain ⟨i,hi,rfl,HZ,HBr,HEr⟩:=hrel
      by_cases hlt : i < Q.length
      · have hiI : (i : Int) < (Q.length : Int):=by omega
        have HLT:=hid hlt
        have hil : i < L.length:=by rw [<- HLN.out]; exact hlt
        have HE:=hid (HEN.out i hil _ HBr.out)
        have HNX:=hid (show entE L i = 0 -> ∀ j,j < i + 1 -> entE L j = 0 from fun h=>zero_next HZ.out h)
        have HBD:=hid (show entE L i ≠ 0 -> chk Q L = (entE L i,some i) from fun h=>chk_each H1.out (fstE_some HZ.out h hil))
        generalize entE L i = z at *
        clear hlt hil
        by_cases hz : z = 0
        · subst hz
          have HN2:=hid (HNX.out rfl)
          go_wp2_with fail
          refine HE.out.mono ?_
          rintro e w1 ⟨rfl,hb⟩
          have HB1:=hid (HBr.out.trans (hb.mono HBr.out.size))
          have HE1:=hid ((hb.block _ (lt_of_blk HEr.out)).trans HEr.out)
          clear hb
          go_wp2_with fail
          go_roundw
          case rel=>first | exact ⟨i + 1,HLT.out,nr_idx i,HN2,HB1,HE1⟩ | exact ⟨i + 1,HLT.out,nx_idx HLT.out (by omega),HN2,HB1,HE1⟩
          case measure=>first | exact nr_meas HLT.out | exact nx_meas HLT.out (by omega)
        · have HX:=hid (HBD.out hz)
          have hpos : (0 : Int) < (z : Int):=by omega
          clear hz
          go_wp2_with fail
          refine HE.out.mono ?_
          rintro e w1 ⟨rfl,hb⟩
          have HB1:=hid (HBr.out.trans (hb.mono HBr.out.size))
          have HE1:=hid ((hb.block _ (lt_of_blk HEr.out)).trans HEr.out)
          clear hb
          have s0 : w1.cell? ⟨w.heap.size,0,none⟩ = some (.int .i64 0):=by rw [Lib.cell_of_heap HE1.out]; rfl
          have s1 : w1.cell? ⟨w.heap.size,1,none⟩ = some (.int .i64 0):=by rw [Lib.cell_of_heap HE1.out]; rfl
          have tf:=fun o=>Lib.frozen_of_heap HE1.out o
          go_wp2_with fail
          refine bodyPost_ret (v:=.agg #[.int .i64 (z : Int),.int .i64 (i : Int)]) (by simp [results,Tryz.results61,go_sem,s0,s1]) rfl ⟨by rw [HX.out]; rfl,?_⟩
          exact put2_below HB1.out (Nat.le_refl _)
      · have hiI : ¬ (i : Int) < (Q.length : Int):=by omega
        have HNE:=hid (show fstE (entE L) L.length = none from fstE_none fun j hj=>HZ.out j (by have:=HLN.out; omega))
        have HX0:=hid (chk_reqs (Q:=Q) H1.out HNE.out)
        clear hlt HZ HEN
        go_wp2_with fail
        go_loopw [5] (fun iv wr=>∃ i : Nat,i <= Q.length /\ iv = .int .i64 i /\ Hid (∀ j,j < i -> reqE2 Q L j = 0) /\ Hid (Below w.heap.size w wr) /\ Hid (wr.heap[w.heap.size]? = some (.cells #[.int .i64 0,.int .i64 0] 36 (0,0)))) (fun iv _=>Q.length - (intOf iv).toNat)
        case atStart=>exact ⟨0,Nat.zero_le _,rfl,hid (fun j h=>absurd h (Nat.not_lt_zero _)),HBr,HEr⟩
        case round=>
          obtain ⟨i2,hi2,rfl,HZ2,HB2,HE2⟩:=hrel
          by_cases hqi : i2 < Q.length
          · have hlt : i2 < L.length:=by rw [<- HLN.out]; exact hqi
            have hiI2 : (i2 : Int) < (Q.length : Int):=by omega
            have hi00 : (0 : Int) <= (i2 : Int):=by omega
            have HLI:=hid hqi
            have HCE:=hid (fun W (h : Below w.heap.size w W)=>(es_all (HI.out.below h).es hqi).2.2.2.1)
            have HMR:=hid (fun W (h : Below w.heap.size w W)=>((HI.out.below h).ok i2 hqi hlt).rq)
            have HNX:=hid (show reqE2 Q L i2 = 0 -> ∀ j,j < i2 + 1 -> reqE2 Q L j = 0 from fun h=>zero_next HZ2.out h)
            have HGD:=hid (reqE2_good (Q:=Q) hlt)
            have HBD:=hid (fun k (hk : k < L[i2].2.1.length) h=>show chk Q L = (5,some i2) by
              have h5:=reqE2_bad (Q:=Q) hlt hk h
              have hs:=fstE_some HZ2.out (by rw [h5]; decide) hlt
              rw [HX0.out,hs,codeE_some hs,h5])
            have hRl:=(HSZ.out L[i2] (List.getElem_mem hlt)).rn
            generalize (L[i2]'hlt).2.1 = R at *
            generalize (Q[i2]'hqi).2.1 = rv at *
            obtain ⟨ra,rc,hrv,-⟩:=HMR.out w (Below.refl _ _)
            subst hrv
            clear hlt hqi
            go_wp2_with fail
            go_loopw [6] (fun kv wr=>∃ k : Nat,k <= R.length /\ kv = .int .i64 k /\ Hid (∀ j (h : j < R.length),j < k -> 0 <= idxOf (isM R[j]) Q) /\ Hid (Below w.heap.size w wr) /\ Hid (wr.heap[w.heap.size]? = some (.cells #[.int .i64 0,.int .i64 0] 36 (0,0)))) (fun kv _=>R.length - (intOf kv).toNat)
            case atStart=>exact ⟨0,Nat.zero_le _,rfl,hid (fun j _ h=>absurd h (Nat.not_lt_zero _)),HB2,HE2⟩
            case round=>
              obtain ⟨k,hk,rfl,HZ3,HB3,HE3⟩:=hrel
              have x2:=HCE.out _ HB3.out
              by_cases hlk : k < R.length
              · have hkI : (k : Int) < (R.length : Int):=by omega
                have hk0 : (0 : Int) <= (k : Int):=by omega
                obtain ⟨xb,xo,hxa,y0,y1⟩:=(HMR.out _ HB3.out).cells hlk
                subst hxa
                have HLK:=hid hlk
                have HF:=hid (HFO.out R[k] _ HB3.out)
                have HNK:=hid (show 0 <= idxOf (isM R[k]) Q -> ∀ j (h : j < R.length),j < k + 1 -> 0 <= idxOf (isM R[j]) Q from fun h0 j h1 h3=>by
                  rcases Nat.lt_or_ge j k with h | h
                  · exact HZ3.out j h1 h
                  · have : j = k:=by omega
                    subst this; exact h0)
                have HBK:=hid (HBD.out k hlk)
                generalize R[k] = x at *
                obtain ⟨x1,x2'⟩:=x
                generalize idxOf (isM (x1,x2')) Q = ix at *
                clear hlk
                by_cases hix : ix < 0
                · have HX:=hid (HBK.out hix)
                  go_wp2_with fail
                  refine HF.out.mono ?_
                  rintro e w1 ⟨rfl,hb⟩
                  have HB4:=hid (HB3.out.trans (hb.mono HB3.out.size))
                  have HE4:=hid ((hb.block _ (lt_of_blk HE3.out)).trans HE3.out)
                  clear hb
                  have s0 : w1.cell? ⟨w.heap.size,0,none⟩ = some (.int .i64 0):=by rw [Lib.cell_of_heap HE4.out]; rfl
                  have s1 : w1.cell? ⟨w.heap.size,1,none⟩ = some (.int .i64 0):=by rw [Lib.cell_of_heap HE4.out]; rfl
                  have tf:=fun o=>Lib.frozen_of_heap HE4.out o
                  go_wp2_with fail
                  refine bodyPost_ret (v:=.agg #[.int .i64 5,.int .i64 (i2 : Int)]) (by simp [results,Tryz.results61,go_sem,s0,s1]) rfl ⟨by rw [HX.out]; rfl,?_⟩
                  exact put2_below HB4.out (Nat.le_refl _)
                · have HN2:=hid (HNK.out (Int.not_lt.1 hix))
                  go_wp2_with fail
                  refine HF.out.mono ?_
                  rintro e w1 ⟨rfl,hb⟩
                  have HB4:=hid (HB3.out.trans (hb.mono HB3.out.size))
                  have HE4:=hid ((hb.block _ (lt_of_blk HE3.out)).trans HE3.out)
                  clear hb
                  go_wp2_with fail
                  go_roundw
                  case rel=>first | exact ⟨k + 1,HLK.out,nr_idx k,HN2,HB4,HE4⟩ | exact ⟨k + 1,HLK.out,nx_idx HLK.out hRl,HN2,HB4,HE4⟩
                  case measure=>first | exact nr_meas HLK.out | exact nx_meas HLK.out hRl
              · have hkI : ¬ (k : Int) < (R.length : Int):=by omega
                have HN2:=hid (HNX.out (HGD.out (fun j h=>HZ3.out j h (by omega))))
                clear hlk
                go_wp2_with fail
                go_roundw
                case rel=>first | exact ⟨i2 + 1,HLI.out,nr_idx i2,HN2,HB3,HE3⟩ | exact ⟨i2 + 1,HLI.out,nx_idx HLI.out (by omega),HN2,HB3,HE3⟩
                case measure=>first | exact nr_meas HLI.out | exact nx_meas HLI.out (by omega)
          · have hiI2 : ¬ (i2 : Int) < (Q.length : Int):=by omega
            have HX:=hid (show chk Q L = (0,none) by
              have hs:=fstE_none (E:=reqE2 Q L) (n:=L.length) (fun j hj=>HZ2.out j (by have:=HLN.out; omega))
              rw [HX0.out,hs,codeE_none hs])
            clear hqi
            go_wp2_with fail
            refine (HFN.out _).mono ?_
            rintro e w1 ⟨rfl,hb⟩
            have HB4:=hid (HB2.out.trans (hb.mono HB2.out.size))
            have HE4:=hid ((hb.block _ (lt_of_blk HE2.out)).trans HE2.out)
            clear hb
            have s0 : w1.cell? ⟨w.heap.size,0,none⟩ = some (.int .i64 0):=by rw [Lib.cell_of_heap HE4.out]; rfl
            have s1 : w1.cell? ⟨w.heap.size,1,none⟩ = some (.int .i64 0):=by rw [Lib.cell_of_heap HE4.out]; rfl
            have tf:=fun o=>Lib.frozen_of_heap HE4.out o
            go_wp2_with fail
            refine bodyPost_ret (v:=.agg #[.int .i64 0,.int .i64 (-1)]) (by simp [results,Tryz.results61,go_sem,s0,s1]) rfl ⟨by rw [HX.out]; rfl,?_⟩
            exact put2_below HB4.out (Nat.le_refl _)
theorem iFault_none (a : Option Addr) (c : Nat) (w : World) : Calls Tryz.prog 61 #[.slice a 0 c] w fun e w'=>e = .returned (faultV (0,none)) /\ Below w.heap.size w w':=by
  have HB0:=hid ((Below.refl w.heap.size w).alloc (Nat.le_refl _) (.cells #[.int .i64 0,.int .i64 0] 36))
  have HE0:=hid (heap_new w (.cells #[.int .i64 0,.int .i64 0] 36))
  have HFN:=hid (fun W=>fine_any W)
  go_enter Tryz.func61,Tryz.ntmps61
  go_wp2_with fail
  go_loopw [3] (fun i wr=>i = .int .i64 0 /\ Hid (wr = w.alloc (.cells #[.int .i64 0,.int .i64 0] 36))) (fun i _=>0)
  case atStart=>exact ⟨rfl,hid rfl⟩
  case round=>
    obtain ⟨rfl,HW⟩:=hrel
    obtain rfl:=HW.out
    clear HW
    go_wp2_with fail
    go_loopw [5] (fun i wr=>i = .int .i64 0 /\ Hid (wr = w.alloc (.cells #[.int .i64 0,.int .i64 0] 36))) (fun i _=>0)
    case atStart=>exact ⟨rfl,hid rfl⟩
    case round=>
      obtain ⟨rfl,HW⟩:=hrel
      obtain rfl:=HW.out
      clear HW
      go_wp2_with fail
      refine (HFN.out _).mono ?_
      rintro e w1 ⟨rfl,hb⟩
      have HB4:=hid (HB0.out.trans (hb.mono HB0.out.size))
      have HE4:=hid ((hb.block _ (lt_of_blk HE0.out)).trans HE0.out)
      clear hb
      have s0 : w1.cell? ⟨w.heap.size,0,none⟩ = some (.int .i64 0):=by rw [Lib.cell_of_heap HE4.out]; rfl
      have s1 : w1.cell? ⟨w.heap.size,1,none⟩ = some (.int .i64 0):=by rw [Lib.cell_of_heap HE4.out]; rfl
      have tf:=fun o=>Lib.frozen_of_heap HE4.out o
      go_wp2_with fail
      refine bodyPost_ret (v:=.agg #[.int .i64 0,.int .i64 (-1)]) (by simp [results,Tryz.results61,go_sem,s0,s1]) rfl ⟨rfl,?_⟩
      exact put2_below HB4.out (Nat.le_refl _)
theorem iFault_any (Q : List Raw) (L : List Ent) (v : Value) (w : World) (hn : L.length <= 1000) (sh : ∀ e,e ∈ L -> ShE e) (I : Ixs w v Q L) :
    Calls Tryz.prog 61 #[v] w fun e w'=>e = .returned (faultV (chk Q L)) /\ Below w.heap.size w w':=by
  obtain ⟨a,c,rfl,_,_,h⟩:=id I.es
  by_cases hQ : Q = []
  · subst hQ
    have hl : L = []:=List.length_eq_zero_iff.1 I.ln.symm
    subst hl
    exact iFault_none a c w
  · obtain ⟨b,o,rfl,_⟩:=h hQ
    exact iFault_some Q L b o c w hn sh I (by rw [<- I.ln]; exact List.length_pos_iff.2 hQ)
theorem nonE_bad {Q : List Raw} {R : List Bm} {k : Nat} (hk : k < R.length) (h0 : ∀ j (h : j < R.length),j < k -> 0 <= idxOf (isM R[j]) Q) (h : idxOf (isM R[k]) Q < 0) : (codeE (nonE Q R) R.length,fstE (nonE Q R) R.length) = (5,some k):=by
  have hz : ∀ j,j < k -> nonE Q R j = 0:=fun j hj=>by
    rw [nonE_at (by omega)]
    unfold nonW
    rw [if_neg (Int.not_lt.2 (h0 j (by omega) hj))]
  have h5 : nonE Q R k = 5:=by
    rw [nonE_at hk]
    unfold nonW
    rw [if_pos h]
  have hs:=fstE_some hz (by rw [h5]; decide) hk
  rw [codeE_some hs,hs,h5]
theorem nonE_good {Q : List Raw} {R : List Bm} (h0 : ∀ j (h : j < R.length),0 <= idxOf (isM R[j]) Q) : (codeE (nonE Q R) R.length,fstE (nonE Q R) R.length) = (0,none):=by
  have hs : fstE (nonE Q R) R.length = none:=fstE_none fun j hj=>by
    rw [nonE_at hj]
    unfold nonW
    rw [if_neg (Int.not_lt.2 (h0 j hj))]
  rw [codeE_none hs,hs]
set_option maxRecDepth 100000 in
set_option maxHeartbeats 4000000 in
theorem rFault_any (Q : List Raw) (R : List Bm) (v rv : Value) (w : World) (hn : Q.length ≤ 1000) (hR : R.length ≤ 1000000) (hv : EsAt w v Q) (hr : MsAt w rv R) :
    Calls Tryz.prog 62 #[v,rv] w fun e w'=>e = .returned (faultV (codeE (nonE Q R) R.length,fstE (nonE Q R) R.length)) /\ Below w.heap.size w w':=by
  have HB0:=hid ((Below.refl w.heap.size w).alloc (Nat.le_refl _) (.cells #[.int .i64 0,.int .i64 0] 36))
  have HE0:=hid (heap_new w (.cells #[.int .i64 0,.int .i64 0] 36))
  have HFO:=hid (fun m W (h : Below w.heap.size w W)=>findOf_all Q m v W (by omega) (hv.below h))
  have HFN:=hid (fun W=>fine_any W)
  have HMR:=hid (fun W (h : Below w.heap.size w W)=>hr.below h)
  have HGD:=hid (nonE_good (Q:=Q) (R:=R))
  have HBD:=hid (fun k (hk : k < R.length) h0 h=>nonE_bad (Q:=Q) hk h0 h)
  obtain ⟨a,c,hv1,-⟩:=id hv
  subst hv1
  obtain ⟨ra,rc,hrv,-⟩:=id hr
  subst hrv
  generalize (codeE (nonE Q R) R.length,fstE (nonE Q R) R.length) = ans at *
  clear hv hr
  go_enter Tryz.func62,Tryz.ntmps62
  go_wp2_with fail
  go_loopw [5] (fun kv wr=>∃ k : Nat,k <= R.length /\ kv = .int .i64 k /\ Hid (∀ j (h : j < R.length),j < k -> 0 <= idxOf (isM R[j]) Q) /\ Hid (Below w.heap.size w wr) /\ Hid (wr.heap[w.heap.size]? = some (.cells #[.int .i64 0,.int .i64 0] 36 (0,0)))) (fun kv _=>R.length - (intOf kv).toNat)
  case atStart=>exact ⟨0,Nat.zero_le _,rfl,hid (fun j _ h=>absurd h (Nat.not_lt_zero _)),HB0,HE0⟩
  case round=>
    obtain ⟨k,hk,rfl,HZ3,HB3,HE3⟩:=hrel
    by_cases hlk : k < R.length
    · have hkI : (k : Int) < (R.length : Int):=by omega
      have hk0 : (0 : Int) <= (k : Int):=by omega
      obtain ⟨xb,xo,hxa,y0,y1⟩:=(HMR.out _ HB3.out).cells hlk
      subst hxa
      have HLK:=hid hlk
      have HF:=hid (HFO.out R[k] _ HB3.out)
      have HNK:=hid (show 0 <= idxOf (isM R[k]) Q -> ∀ j (h : j < R.length),j < k + 1 -> 0 <= idxOf (isM R[j]) Q from fun h0 j h1 h3=>by
        rcases Nat.lt_or_ge j k with h | h
        · exact HZ3.out j h1 h
        · have : j = k:=by omega
          subst this; exact h0)
      have HBK:=hid (HBD.out k hlk HZ3.out)
      generalize R[k] = x at *
      obtain ⟨x1,x2'⟩:=x
      generalize idxOf (isM (x1,x2')) Q = ix at *
      clear hlk
      by_cases hix : ix < 0
      · have HX:=hid (HBK.out hix)
        go_wp2_with fail
        refine HF.out.mono ?_
        rintro e w1 ⟨rfl,hb⟩
        have HB4:=hid (HB3.out.trans (hb.mono HB3.out.size))
        have HE4:=hid ((hb.block _ (lt_of_blk HE3.out)).trans HE3.out)
        clear hb
        have s0 : w1.cell? ⟨w.heap.size,0,none⟩ = some (.int .i64 0):=by rw [Lib.cell_of_heap HE4.out]; rfl
        have s1 : w1.cell? ⟨w.heap.size,1,none⟩ = some (.int .i64 0):=by rw [Lib.cell_of_heap HE4.out]; rfl
        have tf:=fun o=>Lib.frozen_of_heap HE4.out o
        go_wp2_with fail
        refine bodyPost_ret (v:=.agg #[.int .i64 5,.int .i64 (k : Int)]) (by simp [results,Tryz.results62,go_sem,s0,s1]) rfl ⟨by rw [HX.out]; rfl,?_⟩
        exact put2_below HB4.out (Nat.le_refl _)
      · have HN2:=hid (HNK.out (Int.not_lt.1 hix))
        go_wp2_with fail
        refine HF.out.mono ?_
        rintro e w1 ⟨rfl,hb⟩
        have HB4:=hid (HB3.out.trans (hb.mono HB3.out.size))
        have HE4:=hid ((hb.block _ (lt_of_blk HE3.out)).trans HE3.out)
        clear hb
        go_wp2_with fail
        go_roundw
        case rel=>first | exact ⟨k + 1,HLK.out,nr_idx k,HN2,HB4,HE4⟩ | exact ⟨k + 1,HLK.out,nx_idx HLK.out hR,HN2,HB4,HE4⟩
        case measure=>first | exact nr_meas HLK.out | exact nx_meas HLK.out hR
    · have hkI : ¬ (k : Int) < (R.length : Int):=by omega
      have HX:=hid (HGD.out (fun j h=>HZ3.out j h (by omega)))
      clear hlk
      go_wp2_with fail
      refine (HFN.out _).mono ?_
      rintro e w1 ⟨rfl,hb⟩
      have HB4:=hid (HB3.out.trans (hb.mono HB3.out.size))
      have HE4:=hid ((hb.block _ (lt_of_blk HE3.out)).trans HE3.out)
      clear hb
      have s0 : w1.cell? ⟨w.heap.size,0,none⟩ = some (.int .i64 0):=by rw [Lib.cell_of_heap HE4.out]; rfl
      have s1 : w1.cell? ⟨w.heap.size,1,none⟩ = some (.int .i64 0):=by rw [Lib.cell_of_heap HE4.out]; rfl
      have tf:=fun o=>Lib.frozen_of_heap HE4.out o
      go_wp2_with fail
      refine bodyPost_ret (v:=.agg #[.int .i64 0,.int .i64 (-1)]) (by simp [results,Tryz.results62,go_sem,s0,s1]) rfl ⟨by rw [HX.out]; rfl,?_⟩
      exact put2_below HB4.out (Nat.le_refl _)
end Ve
end Go.Proofs.YtlcffhadobhfkaaGreatDoor
