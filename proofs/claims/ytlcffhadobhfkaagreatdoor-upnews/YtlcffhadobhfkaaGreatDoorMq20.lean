/-
  LawO GrJ FileC IxB IxL FoA IxO IxS IxF
-/
import Derived.Test.YtlcffhadobhfkaaGreatDoorMq5
import Derived.Test.YtlcffhadobhfkaaGreatDoorMq6
import Derived.Test.YtlcffhadobhfkaaGreatDoorMq11
import Derived.Test.YtlcffhadobhfkaaGreatDoorMq9
import Derived.Test.YtlcffhadobhfkaaGreatDoorMq2
import Derived.Test.YtlcffhadobhfkaaGreatDoorMq18
import Derived.Test.YtlcffhadobhfkaaGreatDoorMq19
import Derived.Test.YtlcffhadobhfkaaGreatDoorMq3
import Derived.Test.YtlcffhadobhfkaaGreatDoorMq16
namespace Go.Proofs.YtlcffhadobhfkaaGreatDoor
open Go.RowKit
namespace Ve
set_option maxHeartbeats 1000000 in
theorem ownM_some (b o c : Nat) (L : List Bm) (w : World) (hn : L.length <= 1000000) (hL : L ≠ []) (hc : ∀ j u,(flatM L)[j]? = some u -> w.cell? ⟨b,o + j,none⟩ = some u) :
    Calls Tryz.prog 19 #[.slice (some ⟨b,o,none⟩) L.length c] w fun e w'=>∃ v,e = .returned v /\ w'.ownsRow w.heap.size 25 2 v L.length (flatM L) /\ Below w.heap.size w w':=by
  obtain ⟨i0,hi,hz0,hz1,hz2⟩:=info_parts infoMod
  have HC:=hid hc
  have hpos : 0 < L.length:=List.length_pos_iff.2 hL
  clear hc hL
  go_enter Tryz.func19,Tryz.ntmps19
  go_wp2_with (at_builtin; refine wpList_append_own _ rfl _ _ 23 rfl w.heap.size 25 i0 _ 2 32 Tryz.underlying23 hi hz0 hz1 hz2 rfl (by decide) _ _ _ rfl (World.ownsRow_nil _ _ _ _) ⟨b,o,none⟩ L.length c (flatM L) rfl ?qc1 ?qc2 ?qc3 ?qc4 ?qc5 ?qc6 ?_)
  case qc1=>exact flatM_len L
  case qc2=>
    intro j u hj
    rw [Addr.add_lit]
    exact HC.out j u hj
  case qc3=>exact flat_one L
  case qc4=>rw [Nat.zero_add]; unfold maxLen; omega
  case qc5=>rw [Nat.zero_add]; omega
  case qc6=>exact Nat.le_refl _
  intro v' w1 hown hgrow hnil
  obtain ⟨va,vn,vc,rfl⟩:=own_sl hown
  have HO:=hid hown
  have HG:=hid hgrow
  clear hown hgrow hnil
  go_wp2_with fail
  go_ret
  refine ⟨_,rfl,by simpa using HO.out,?_⟩
  exact (Below.refl _ w).grown HG.out (Nat.le_refl _) (by intro k hk; simp [Value.ownBlock] at hk)
set_option maxHeartbeats 1000000 in
theorem ownM_nil (w : World) : Calls Tryz.prog 19 #[.slice none 0 0] w fun e w'=>e = .returned (.slice none 0 0) /\ w' = w:=by
  obtain ⟨i0,hi,hz0,hz1,hz2⟩:=info_parts infoMod
  go_enter Tryz.func19,Tryz.ntmps19
  go_wp2_with (at_builtin; refine wpList_append_own_none rfl _ _ 23 rfl w.heap.size 25 i0 2 Tryz.underlying23 hi _ _ _ rfl (World.ownsRow_nil _ _ _ _) rfl ?_)
  go_ret
  exact ⟨rfl,rfl⟩
set_option maxHeartbeats 1000000 in
theorem ownM_none (a : Addr) (c : Nat) (w : World) : Calls Tryz.prog 19 #[.slice (some a) 0 c] w fun e w'=>e = .returned (.slice none 0 0) /\ w' = w:=by
  have hrun : ∀ ty,(Builtin.append_ #[23,23] ty #[.slice none 0 0,.slice (some a) 0 c]).run Tryz.prog w = .ok (.slice none 0 0) w:=fun ty=>by
    obtain ⟨i0,hi,hz0,hz1,hz2⟩:=info_parts infoMod
    have hl : (loadCells a 0).run Tryz.prog w = .ok #[] w:=by simpa using run_loadCells_list (P:=Tryz.prog) w a [] (by simp)
    simp [Builtin.append_,run_underlying Tryz.underlying23,Builtin.lenOf,Builtin.firstCells,Go.sizeOf,typeInfo,hi,hl]
  go_enter Tryz.func19,Tryz.ntmps19
  go_wp2_with (at_builtin; refine Lib.wpList_append_run _ rfl _ _ _ _ rfl _ _ rfl rfl _ _ (hrun _) ?_)
  go_ret
  exact ⟨rfl,rfl⟩
def Em (v : Value) (L : List Bm) : Prop:=∀ a c,v = .slice a L.length c -> L = [] -> (Value.slice a 0 c = .slice none 0 0 \/ ∃ a',Value.slice a 0 c = .slice (some a') 0 c)
theorem ownM_any (v : Value) (L : List Bm) (w : World) (hn : L.length <= 1000000) (hv : MsAt w v L) (hem : Em v L) :
    Calls Tryz.prog 19 #[v] w fun e w'=>∃ u,e = .returned u /\ w'.ownsRow w.heap.size 25 2 u L.length (flatM L) /\ (L = [] -> u = .slice none 0 0) /\ Below w.heap.size w w':=by
  obtain ⟨a,c,rfl,_,h⟩:=hv
  have hz : L = [] -> _:=hem a c rfl
  cases L with
  | nil=>
    rcases hz rfl with hz | ⟨a',hz⟩
    · show Calls Tryz.prog 19 #[.slice a 0 c] w _
      rw [hz]
      exact (ownM_nil w).mono fun e w' ⟨h1,h2⟩=>⟨_,h1,World.ownsRow_nil _ _ _ _,fun _=>rfl,by rw [h2]; exact Below.refl _ _⟩
    · show Calls Tryz.prog 19 #[.slice a 0 c] w _
      rw [hz]
      exact (ownM_none a' c w).mono fun e w' ⟨h1,h2⟩=>⟨_,h1,World.ownsRow_nil _ _ _ _,fun _=>rfl,by rw [h2]; exact Below.refl _ _⟩
  | cons x r=>
    obtain ⟨b,o,rfl,h2⟩:=h (by simp)
    exact (ownM_some b o c (x :: r) w hn (by simp) (ms_flat h2)).mono fun e w' ⟨u,h1,h2,h3⟩=>⟨u,h1,h2,(fun h=>by cases h),h3⟩
def okLN (N : Nat) (L : List Bm) : Bool:=decide (L.length <= N) && L.all okM
theorem okLN_iff {N : Nat} {L : List Bm} (h : okLN N L = true) : L.length <= N /\ ∀ m,m ∈ L -> m.1.size <= 70 /\ m.2.size <= 60:=by
  unfold okLN at h
  rw [Bool.and_eq_true] at h
  refine ⟨of_decide_eq_true h.1,fun m hm=>?_⟩
  have:=List.all_eq_true.1 h.2 m hm
  unfold okM at this
  rw [Bool.and_eq_true] at this
  exact ⟨of_decide_eq_true this.1,of_decide_eq_true this.2⟩
set_option maxHeartbeats 1000000 in
theorem longN_some (N : Nat) (hN : N <= 1000) (L : List Bm) (b o c : Nat) (w : World) (hn : L.length <= N)
    (hc : ∀ j (h : j < L.length),w.cell? ⟨b,o + j * 2,none⟩ = some (.string L[j].1) /\ w.cell? ⟨b,o + j * 2 + 1,none⟩ = some (.string L[j].2)) :
    Calls Tryz.prog 17 #[.slice (some ⟨b,o,none⟩) L.length c,.int .i64 (N : Int)] w fun e w'=>e = .returned (.int .i64 (if okLN N L then 0 else 1)) /\ w' = w:=by
  have HC:=hid hc
  have HO:=hid (show okLN N L = L.all okM by unfold okLN; rw [decide_eq_true hn,Bool.true_and])
  have hn2 : ¬ (N : Int) < (L.length : Int):=by omega
  generalize hr : (if okLN N L then (0 : Int) else 1) = r
  have HR:=hid hr
  clear hc hr
  go_enter Tryz.func17,Tryz.ntmps17
  go_wp2_with fail
  go_loop [5] (fun i=>∃ k : Nat,k <= L.length /\ i = .int .i64 k /\ Hid ((L.take k).all okM = true)) (fun i=>L.length - (intOf i).toNat)
  case atStart=>exact ⟨0,Nat.zero_le _,rfl,hid rfl⟩
  case round=>
    obtain ⟨k,hk,rfl,HA⟩:=hrel
    by_cases hlt : k < L.length
    · have hx:=(HC.out k hlt).1
      have hy:=(HC.out k hlt).2
      have HN:=hid (fun h=>all_take_next hlt HA.out h)
      have HX:=hid (fun h=>all_not hlt h)
      have HLT:=hid hlt
      have hkI : (k : Int) < (L.length : Int):=by omega
      generalize L[k] = x at *
      clear hlt
      obtain ⟨p,v⟩:=x
      by_cases h1 : p.size <= 70
      · have h1' : ¬ (70 : Int) < (p.size : Int):=by omega
        by_cases h2 : v.size <= 60
        · have h2' : ¬ (60 : Int) < (v.size : Int):=by omega
          have HT:=hid (HN.out (by unfold okM; rw [decide_eq_true h1,decide_eq_true h2]; rfl))
          go_wp2_with fail
          go_round
          case rel=>exact ⟨k + 1,by have:=HLT.out; omega,by go_num,HT⟩
          case measure=>have:=HLT.out; simp [intOf]; omega
        · have h2' : (60 : Int) < (v.size : Int):=by omega
          have HT:=hid (HX.out (by unfold okM; rw [decide_eq_true h1,decide_eq_false h2]; rfl))
          go_wp2_with fail
          go_ret
          exact ⟨by rw [<- HR.out,HO.out,HT.out]; rfl,rfl⟩
      · have h1' : (70 : Int) < (p.size : Int):=by omega
        have HT:=hid (HX.out (by unfold okM; rw [decide_eq_false h1]; rfl))
        go_wp2_with fail
        go_ret
        exact ⟨by rw [<- HR.out,HO.out,HT.out]; rfl,rfl⟩
    · have HT:=hid (show L.all okM = true by have:=HA.out; rw [List.take_of_length_le (by omega)] at this; exact this)
      go_wp2_with fail
      go_ret
      exact ⟨by rw [<- HR.out,HO.out,HT.out]; rfl,rfl⟩
theorem longN_none (N : Nat) (a : Option Addr) (c : Nat) (w : World) : Calls Tryz.prog 17 #[.slice a 0 c,.int .i64 (N : Int)] w fun e w'=>e = .returned (.int .i64 0) /\ w' = w:=by
  go_enter Tryz.func17,Tryz.ntmps17
  go_wp2_with fail
  go_loop [5] (fun i=>i = .int .i64 0) (fun i=>0)
  case atStart=>exact rfl
  case round=>
    obtain rfl:=hrel
    go_wp2_with fail
    go_ret
    exact ⟨rfl,rfl⟩
theorem longN_many (N : Nat) (a : Option Addr) (n c : Nat) (w : World) (hn : N < n) : Calls Tryz.prog 17 #[.slice a n c,.int .i64 (N : Int)] w fun e w'=>e = .returned (.int .i64 1) /\ w' = w:=by
  have hn2 : (N : Int) < (n : Int):=by omega
  go_enter Tryz.func17,Tryz.ntmps17
  go_wp2_with fail
  go_ret
  exact ⟨rfl,rfl⟩
theorem longN_any (N : Nat) (hN : N <= 1000) (L : List Bm) (v : Value) (w : World) (hv : MsAt w v L) : Calls Tryz.prog 17 #[v,.int .i64 (N : Int)] w fun e w'=>e = .returned (.int .i64 (if okLN N L then 0 else 1)) /\ w' = w:=by
  obtain ⟨a,c,rfl,_,h⟩:=hv
  by_cases hn : L.length <= N
  · cases L with
    | nil=>exact longN_none N a c w
    | cons x r=>
      obtain ⟨b,o,rfl,h2⟩:=h (by simp)
      exact longN_some N hN (x :: r) b o c w hn h2
  · have : okLN N L = false:=by unfold okLN; rw [decide_eq_false hn]; rfl
    rw [this]
    exact longN_many N a L.length c w (by omega)
def shortL (L : List Bm) : Prop:=∀ m,m ∈ L -> m.1.size < 999999 /\ m.2.size < 999999
theorem reqE_0 {own : ByteArray} {L : List Bm} (h : 0 < L.length) : reqE own L 0 = reqW own none L[0]:=by
  unfold reqE prevOf; rw [List.getElem?_eq_getElem h]; rfl
theorem reqE_1 {own : ByteArray} {L : List Bm} {k : Nat} (h : k + 1 < L.length) : reqE own L (k + 1) = reqW own (some (L[k]'(by omega))) L[k + 1]:=by
  unfold reqE prevOf; rw [List.getElem?_eq_getElem h,if_neg (by omega)]; simp only [Nat.add_sub_cancel]; rw [List.getElem?_eq_getElem (show k < L.length by omega)]
theorem reqK_any (own : ByteArray) (L : List Bm) (b1 b2 : Nat) (v : Value) (A : Nat -> Addr) (m : Int) (W : World) (hL : L.length <= 1000000) (hs : shortL L) (S : Te W A m) (h1 : W.cell? ⟨b1,0,none⟩ = some (.string own)) (h2 : W.cell? ⟨b2,0,none⟩ = some v) (hv : MsAt W v L) (i : Nat) (hi : i < L.length) :
    Calls Tryz.prog 214 (#[.int .i64 (i : Int),.agg #[.string L[i].1,.string L[i].2]] ++ #[.pointer (some ⟨b1,0,none⟩),.pointer (some ⟨b2,0,none⟩)]) W fun e w'=>e = .returned (errA A (reqE own L i)) /\ Below W.heap.size W w':=by
  obtain ⟨a,c,rfl,_,h⟩:=hv
  obtain ⟨b,o,rfl,hc⟩:=h (by intro e; rw [e] at hi; simp at hi)
  have hz:=hs L[i] (List.getElem_mem hi)
  cases i with
  | zero=>
    rw [reqE_0 hi]
    by_cases e0 : mErr L[0] = 0
    · by_cases e1 : L[0].1 = own
      · exact reqK_own 0 L[0].1 L[0].2 own b1 _ none A m W hz.1 hz.2 S h1 e0 e1
      · exact reqK_0 L[0].1 L[0].2 own b1 _ A m W hz.1 hz.2 S h1 e0 e1
    · exact reqK_bad 0 L[0].1 L[0].2 own b1 _ none A m W hz.1 hz.2 S e0
  | succ k=>
    rw [reqE_1 hi]
    by_cases e0 : mErr L[k + 1] = 0
    · by_cases e1 : L[k + 1].1 = own
      · exact reqK_own _ L[k + 1].1 L[k + 1].2 own b1 _ _ A m W hz.1 hz.2 S h1 e0 e1
      · exact reqK_1 k L[k + 1].1 L[k + 1].2 L[k].1 L[k].2 own b1 b2 b o L.length c A m W hz.1 hz.2 S h1 e0 e1 h2 (by omega) hL (hc k (by omega)).1
    · exact reqK_bad _ L[k + 1].1 L[k + 1].2 own b1 _ _ A m W hz.1 hz.2 S e0
theorem MsAt.slice {w : World} {v : Value} {L : List Bm} (h : MsAt w v L) : ∃ p n c,v = .slice p n c:=by
  obtain ⟨a,c,e,_⟩:=h
  exact ⟨a,_,c,e⟩
set_option maxHeartbeats 1000000 in
theorem reqs_any (own : ByteArray) (L : List Bm) (v : Value) (A : Nat -> Addr) (m : Int) (w : World) (hL : L.length <= 1000000) (hs : shortL L) (S : Te w A m) (hv : MsAt w v L) :
    Calls Tryz.prog 177 #[.string own,v] w fun e w'=>∃ u,e = .returned u /\ ErrAt w' A u (codeE (reqE own L) L.length) (fstE (reqE own L) L.length) /\ Below w.heap.size w w':=by
  obtain ⟨vp,vn,vc,rfl⟩:=hv.slice
  have HB0:=hid (((Below.refl w.heap.size w).alloc (Nat.le_refl _) (.cells #[.string own] 9)).alloc (by simp) (.cells #[.slice vp vn vc] 23))
  have eg : ∀ args w,(callFunc 214 args).run Tryz.prog w = .ok (.enter 214 args) w:=enters_of Tryz.func214 (by kernel_rfl) rfl
  have HF:=hid (first_any 214 #[.pointer (some ⟨w.heap.size,0,none⟩),.pointer (some ⟨w.heap.size + 1,0,none⟩)] (reqE own L) L _ A ((w.alloc (.cells #[.string own] 9)).alloc (.cells #[.slice vp vn vc] 23)) eg hL (hv.below HB0.out) (fun i hi W hW=>
    reqK_any own L w.heap.size (w.heap.size + 1) _ A m W hL hs ((S.below HB0.out).below hW) (cell_below hW (by rw [World.cell?_alloc_lt _ _ _ (by simp)]; simp)) (cell_below hW (by rw [World.cell?_alloc_at _ _ _ _ (by simp)]; rfl)) ((hv.below HB0.out).below hW) i hi))
  clear S hv eg
  go_enter Tryz.func177,Tryz.ntmps177
  go_wp2_with fail
  refine HF.out.mono ?_
  rintro e w1 ⟨u,rfl,he,hb⟩
  have HB:=hid (HB0.out.trans (hb.mono HB0.out.size))
  have HE:=hid he
  clear hb he
  go_wp2_with fail
  go_ret
  exact ⟨_,rfl,HE.out,HB.out⟩
theorem infoEnt : (Tryz.prog.info? 45).map (fun i=>(i.zero,i.size,i.bytes)) = some (some (.agg #[.string ⟨#[]⟩,.string ⟨#[]⟩,.slice none 0 0,.slice none 0 0,.bool false]),5,88):=by kernel_rfl
def rowR (r : Raw) : List Value:=[.string r.1.1,.string r.1.2,r.2.1,r.2.2.1,.bool r.2.2.2]
def flatR (L : List Raw) : List Value:=L.flatMap rowR
theorem flatR_app (D E : List Raw) : flatR (D ++ E) = flatR D ++ flatR E:=by simp [flatR]
theorem flatR_get : ∀ (D : List Raw) (j c : Nat) (hj : j < D.length) (_ : c < 5),(flatR D)[j * 5 + c]? = (rowR D[j])[c]?
  | [],_,_,hj,_=>absurd hj (Nat.not_lt_zero _)
  | r :: R,0,c,_,hc=>by
    have : flatR (r :: R) = rowR r ++ flatR R:=rfl
    rw [this,List.getElem?_append_left (by show 0 * 5 + c < 5; omega)]
    simp
  | r :: R,j + 1,c,hj,hc=>by
    have : flatR (r :: R) = rowR r ++ flatR R:=rfl
    rw [this,List.getElem?_append_right (by show 5 <= (j + 1) * 5 + c; omega),show (j + 1) * 5 + c - (rowR r).length = j * 5 + c by show (j + 1) * 5 + c - 5 = _; omega]
    exact flatR_get R j c (by simpa using hj) hc
theorem own_es {w : World} {base : Nat} {e : TypeId} {v : Value} {L : List Raw} (hs : ∀ r,r ∈ L -> slR r) (h : w.ownsRow base e 5 v L.length (flatR L)) : EsAt w v L:=by
  obtain ⟨_,⟨hv,hn0⟩ | ⟨g,cap,cur,hv,hg,hblk,hcap,hcm,hcs,hct⟩⟩:=h
  · exact ⟨none,0,by rw [hv,hn0],by omega,hs,fun hL=>absurd (List.length_eq_zero_iff.1 hn0) hL⟩
  · refine ⟨_,cap,hv,hcap,hs,fun _=>⟨g,0,rfl,fun j hj=>?_⟩⟩
    have go : ∀ c,c < 5 -> w.cell? ⟨g,0 + j * 5 + c,none⟩ = (rowR L[j])[c]?:=fun c hc=>by
      have h1:=flatR_get L j c hj hc
      rw [<- hct,List.getElem?_take,if_pos (by omega)] at h1
      simp only [World.cell?,hblk]
      rw [<- h1]; simp
    exact ⟨by have:=go 0 (by omega); simpa [rowR] using this,by have:=go 1 (by omega); simpa [rowR] using this,by have:=go 2 (by omega); simpa [rowR] using this,by have:=go 3 (by omega); simpa [rowR] using this,by have:=go 4 (by omega); simpa [rowR] using this⟩
theorem own_nextR {W : World} {B : Nat} {e : TypeId} {v : Value} {L L' : List Raw} {x : Raw} (h : W.ownsRow B e 5 v (L.length + 1) (flatR L ++ rowR x)) (hl : L' = L ++ [x]) : W.ownsRow B e 5 v L'.length (flatR L'):=by
  subst hl
  rw [List.length_append,flatR_app]
  have : flatR [x] = rowR x:=by simp [flatR]
  rw [this]; exact h
theorem rel_app5 {B : Nat} {w wr w2 w3 : World} {e : TypeId} {v : Value} {n : Nat} {xs : List Value} {o : Obj} (hB : B <= wr.heap.size) (hb : Below B w wr) (hown : wr.ownsRow B e 5 v n xs) (hb2 : Below wr.heap.size wr w2)
    (hg : (w2.alloc o).grownBy w3 v.ownBlock) : Below B w w3:=by
  have h2 : Below B w w2:=hb.trans (hb2.mono hB)
  have h3 : Below B w (w2.alloc o):=h2.alloc (Nat.le_trans hB hb2.size) o
  exact h3.grown hg (by simp; exact Nat.le_succ_of_le (Nat.le_trans hB hb2.size)) (fun k hk=>(hown.lt k hk).1)
theorem filter_snoc (P : Raw -> Bool) {L : List Raw} {k : Nat} (hk : k < L.length) : (L.take (k + 1)).filter P = (L.take k).filter P ++ (if P L[k] then [L[k]] else []):=by
  rw [List.take_succ_eq_append_getElem hk,List.filter_append]
  simp [List.filter_cons]
theorem filter_yes {P : Raw -> Bool} {L : List Raw} {k : Nat} (hk : k < L.length) (h : P L[k] = true) : (L.take (k + 1)).filter P = (L.take k).filter P ++ [L[k]]:=by rw [filter_snoc P hk,h]; rfl
theorem filter_no {P : Raw -> Bool} {L : List Raw} {k : Nat} (hk : k < L.length) (h : P L[k] = false) : (L.take (k + 1)).filter P = (L.take k).filter P:=by rw [filter_snoc P hk,h]; simp
abbrev Ent:=Bm × List Bm × List ByteArray × Bool
structure RawOk (w : World) (r : Raw) (e : Ent) : Prop where
  m : r.1 = e.1
  rq : MsAt w r.2.1 e.2.1
  pk : TxAt w r.2.2.1 e.2.2.1
  bk : r.2.2.2 = e.2.2.2
theorem RawOk.below {w w' : World} {r : Raw} {e : Ent} (h : RawOk w r e) (hb : Below w.heap.size w w') : RawOk w' r e:=⟨h.m,h.rq.below hb,h.pk.below hb,h.bk⟩
structure Ixs (w : World) (v : Value) (Q : List Raw) (L : List Ent) : Prop where
  es : EsAt w v Q
  ln : Q.length = L.length
  ok : ∀ j (h : j < Q.length) (h' : j < L.length),RawOk w Q[j] L[j]
theorem Ixs.below {w w' : World} {v : Value} {Q : List Raw} {L : List Ent} (h : Ixs w v Q L) (hb : Below w.heap.size w w') : Ixs w' v Q L:=⟨h.es.below hb,h.ln,fun j h1 h2=>(h.ok j h1 h2).below hb⟩
open Go.Maps
theorem MsAt.cells {w : World} {a : Option Addr} {n c : Nat} {L : List Bm} (h : MsAt w (.slice a n c) L) {k : Nat} (hk : k < L.length) : ∃ b o,a = some ⟨b,o,none⟩ /\ w.cell? ⟨b,o + k * 2,none⟩ = some (.string L[k].1) /\ w.cell? ⟨b,o + k * 2 + 1,none⟩ = some (.string L[k].2):=by
  obtain ⟨a',c',e,_,h⟩:=h
  injection e with e1 e2 e3
  subst e1
  obtain ⟨b,o,e4,h4⟩:=h (by intro h0; rw [h0] at hk; simp at hk)
  exact ⟨b,o,e4,h4 k hk⟩
theorem es_cells {W : World} {a : Option Addr} {n c : Nat} {Q : List Raw} (h : EsAt W (.slice a n c) Q) {k : Nat} (hk : k < Q.length) : ∃ b o,a = some ⟨b,o,none⟩ /\ W.cell? ⟨b,o + k * 5 + 2,none⟩ = some Q[k].2.1:=by
  obtain ⟨a',c',e,_,_,h⟩:=h
  injection e with e1 e2 e3
  subst e1
  obtain ⟨b',o',e4,h4⟩:=h (by intro h0; rw [h0] at hk; simp at hk)
  exact ⟨b',o',e4,(h4 k hk).2.2.1⟩
theorem own_slN {W : World} {B n k : Nat} {e : TypeId} {v : Value} {xs : List Value} (h : W.ownsRow B e k v n xs) : ∃ a c,v = .slice a n c:=by
  obtain ⟨_,⟨hv,hn0⟩ | ⟨g,cap,cur,hv,_⟩⟩:=h
  · exact ⟨none,0,by rw [hv,hn0]⟩
  · exact ⟨_,_,hv⟩
theorem own_kind {W W3 : World} {B B' k k' n n' : Nat} {e e' : TypeId} {v v' : Value} {xs xs' : List Value} (h : W.ownsRow B e k v n xs) (hg : W.grownBy W3 v'.ownBlock) (h' : W.ownsRow B' e' k' v' n' xs') (hne : e ≠ e') : W3.ownsRow B e k v n xs:=by
  obtain ⟨hl,h | ⟨g,cap,cur,e1,e2,e3,e4,e5,e6,e7⟩⟩:=h
  · exact ⟨hl,Or.inl h⟩
  · refine ⟨hl,Or.inr ⟨g,cap,cur,e1,e2,?_,e4,e5,e6,e7⟩⟩
    rw [hg.block g (lt_of_blk e3) (fun hh=>?_)]; exact e3
    obtain ⟨_,⟨hv,_⟩ | ⟨g',cap',cur',hv,_,hb,_⟩⟩:=h'
    · rw [hv] at hh; simp [Value.ownBlock] at hh
    · rw [hv] at hh
      simp only [Value.ownBlock,Option.some.injEq] at hh
      subst hh
      rw [e3] at hb
      simp only [Option.some.injEq,Obj.cells.injEq] at hb
      exact hne hb.2.1
theorem own_baseN {W : World} {B B' k n : Nat} {e : TypeId} {v : Value} {xs : List Value} (h : W.ownsRow B e k v n xs) (hB : B' <= B) : W.ownsRow B' e k v n xs:=by
  obtain ⟨hl,h | ⟨g,cap,cur,e1,e2,e3,e4,e5,e6,e7⟩⟩:=h
  · exact ⟨hl,Or.inl h⟩
  · exact ⟨hl,Or.inr ⟨g,cap,cur,e1,Nat.le_trans hB e2,e3,e4,e5,e6,e7⟩⟩
theorem own_setN {W : World} {B k n b o : Nat} {e T : TypeId} {v x : Value} {xs : List Value} {cs : Array Value} {fr : Nat × Nat} (h : W.ownsRow B e k v n xs) (hb : W.heap[b]? = some (.cells cs T fr)) (hne : e ≠ T) : (W.setCell ⟨b,o,none⟩ x).ownsRow B e k v n xs:=by
  obtain ⟨hl,h | ⟨g,cap,cur,e1,e2,e3,e4,e5,e6,e7⟩⟩:=h
  · exact ⟨hl,Or.inl h⟩
  · refine ⟨hl,Or.inr ⟨g,cap,cur,e1,e2,?_,e4,e5,e6,e7⟩⟩
    rw [Below.heap_setCell _ _ _ _ (fun hh=>?_)]; exact e3
    subst hh
    rw [e3] at hb
    simp only [Option.some.injEq,Obj.cells.injEq] at hb
    exact hne hb.2.1
structure OwnE (B : Nat) (w : World) (r : Raw) (e : Ent) : Prop where
  m : r.1 = e.1
  rq : w.ownsRow B 25 2 r.2.1 e.2.1.length (flatM e.2.1)
  pk : w.ownsRow B 9 1 r.2.2.1 e.2.2.1.length (e.2.2.1.map Value.string)
  bk : r.2.2.2 = e.2.2.2
theorem OwnE.ok {B : Nat} {w : World} {r : Raw} {e : Ent} (h : OwnE B w r e) : RawOk w r e:=⟨h.m,own_ms h.rq,own_tx h.pk,h.bk⟩
theorem OwnE.sl {B : Nat} {w : World} {r : Raw} {e : Ent} (h : OwnE B w r e) : slR r:=by
  obtain ⟨a,c,h1⟩:=own_slN h.rq
  obtain ⟨a',c',h2⟩:=own_slN h.pk
  exact ⟨⟨_,_,_,h1⟩,_,_,_,h2⟩
theorem OwnE.below {B : Nat} {w w' : World} {r : Raw} {e : Ent} (h : OwnE B w r e) (hb : Below w.heap.size w w') : OwnE B w' r e:=⟨h.m,owns_below h.rq hb,owns_below h.pk hb,h.bk⟩
theorem OwnE.kind {B B' k n : Nat} {w w' : World} {r : Raw} {e : Ent} {v : Value} {xs : List Value} (h : OwnE B w r e) (hg : w.grownBy w' v.ownBlock) (ho : w.ownsRow B' 45 k v n xs) : OwnE B w' r e:=
  ⟨h.m,own_kind h.rq hg ho (by decide),own_kind h.pk hg ho (by decide),h.bk⟩
theorem OwnE.set {B b o : Nat} {w : World} {r : Raw} {e : Ent} {x : Value} {cs : Array Value} {fr : Nat × Nat} (h : OwnE B w r e) (hb : w.heap[b]? = some (.cells cs 45 fr)) : OwnE B (w.setCell ⟨b,o,none⟩ x) r e:=
  ⟨h.m,own_setN h.rq hb (by decide),own_setN h.pk hb (by decide),h.bk⟩
structure OwnI (B : Nat) (w : World) (v : Value) (Q : List Raw) (L : List Ent) : Prop where
  ln : Q.length = L.length
  row : w.ownsRow B 45 5 v Q.length (flatR Q)
  es : ∀ j (h : j < Q.length) (h' : j < L.length),OwnE B w Q[j] L[j]
theorem OwnI.sl {B : Nat} {w : World} {v : Value} {Q : List Raw} {L : List Ent} (h : OwnI B w v Q L) : ∀ r,r ∈ Q -> slR r:=fun r hr=>by
  obtain ⟨j,hj,rfl⟩:=List.getElem_of_mem hr
  exact (h.es j hj (by rw [<- h.ln]; exact hj)).sl
theorem OwnI.below {B : Nat} {w w' : World} {v : Value} {Q : List Raw} {L : List Ent} (h : OwnI B w v Q L) (hb : Below w.heap.size w w') : OwnI B w' v Q L:=⟨h.ln,owns_below h.row hb,fun j h1 h2=>(h.es j h1 h2).below hb⟩
theorem OwnI.set {B b o : Nat} {w : World} {v x : Value} {Q : List Raw} {L : List Ent} {cs : Array Value} {fr : Nat × Nat} (h : OwnI B w v Q L) (hb : w.heap[b]? = some (.cells cs 45 fr)) (hne : v.ownBlock ≠ some b) : OwnI B (w.setCell ⟨b,o,none⟩ x) v Q L:=by
  refine ⟨h.ln,?_,fun j h1 h2=>(h.es j h1 h2).set hb⟩
  obtain ⟨hl,hr | ⟨g,cap,cur,e1,e2,e3,e4,e5,e6,e7⟩⟩:=h.row
  · exact ⟨hl,Or.inl hr⟩
  · refine ⟨hl,Or.inr ⟨g,cap,cur,e1,e2,?_,e4,e5,e6,e7⟩⟩
    rw [Below.heap_setCell _ _ _ _ (fun hh=>hne (by rw [e1,hh]; rfl))]; exact e3
theorem OwnI.more {B : Nat} {w w' : World} {v v' : Value} {Q : List Raw} {L : List Ent} {k : Nat} {r : Raw} (hk : k < L.length) (h : OwnI B w v Q (L.take k)) (he : OwnE B w r L[k]) (hg : w.grownBy w' v.ownBlock)
    (ho : w'.ownsRow B 45 5 v' (Q.length + 1) (flatR Q ++ rowR r)) : OwnI B w' v' (Q ++ [r]) (L.take (k + 1)):=by
  have hl:=h.ln
  have hlk : (L.take k).length = k:=by rw [List.length_take]; omega
  refine ⟨?_,own_nextR ho rfl,fun j h1 h2=>?_⟩
  · rw [List.length_append,hl,hlk,List.length_take]; show k + 1 = _; omega
  · by_cases hj : j < Q.length
    · have:=(h.es j hj (by omega)).kind hg h.row
      rw [List.getElem_append_left hj,List.getElem_take]
      rw [List.getElem_take] at this; exact this
    · have hjk : j = k:=by rw [List.length_append] at h1; simp at h1; omega
      subst hjk
      have hq : Q.length = j:=by omega
      rw [List.getElem_append_right (by omega),List.getElem_take]
      simp only [hq,Nat.sub_self,List.getElem_cons_zero]
      exact he.kind hg h.row
structure Fits (e : Ent) : Prop where
  rq : e.2.1.length <= 1000
  pk : e.2.2.1.length <= 1000
open Go.Shelf Go.Sort
theorem map_bl (X : List ByteArray) : (bl X).map encStr = X.map Value.string:=by simp [bl]
def ba' (t : List UInt8) : ByteArray:=⟨t.toArray⟩
def srtB (Z : List (List UInt8)) : List (List UInt8):=Z.mergeSort fun x y=>decide (x <= y)
def risB (Z : List (List UInt8)) : List (List UInt8):=Lib.compact (srtB Z)
theorem srtB_len (Z : List (List UInt8)) : (srtB Z).length = Z.length:=by simp [srtB]
theorem values_any (a : Option Addr) (len cap : Nat) (w : World) :
    Calls Tryz.prog 251 #[.slice a len cap] w fun e w'=>e = .returned (.func (.func 278) #[] #[.pointer (some ⟨w.heap.size,0,none⟩)]) /\ w' = w.alloc (.cells #[.slice a len cap] 43):=
  (callsIn_wide (n:=4)).1 (values_in Fence.wide 4 trivial rfl a len cap w)
set_option maxRecDepth 100000 in
set_option maxHeartbeats 2000000 in
theorem sorted_any (X : List ByteArray) (hX : X.length <= 1000000) (sv : Value) (w : World) (Bs : Nat) (hBs : Bs < w.heap.size) (hc : w.cell? ⟨Bs,0,none⟩ = some sv) (hI : TxAt w sv X) :
    Calls Tryz.prog 250 #[.func (.func 278) #[] #[.pointer (some ⟨Bs,0,none⟩)]] w fun e W'=>∃ v,e = .returned v /\ W'.ownsRow w.heap.size 9 1 v X.length ((srtB (bl X)).map encStr) /\ Below w.heap.size w W':=by
  have HCL:=hid (collect_any X hX sv w Bs hBs hc hI)
  clear hc hI
  go_enter Tryz.func250,Tryz.ntmps250
  go_wp2_with fail
  refine HCL.out.mono ?_
  rintro e W ⟨v,rfl,hrow,hnil,hb⟩
  have HB:=hid hb
  have HROW:=hid hrow
  rcases hrow.2 with ⟨rfl,hz⟩ | ⟨gb,cap,cur,rfl,hbase,hgb,r1,r2,r3,r4⟩
  · have hss : X = []:=List.eq_nil_of_length_eq_zero hz
    subst hss
    have HS:=hid (Tryz.slices_Sort_string_none none 0 W)
    clear hrow hnil hb hz
    go_wp2_with fail
    refine HS.out.mono ?_
    rintro e w1 ⟨rfl,rfl⟩
    go_wp2_with fail
    go_ret
    exact ⟨_,rfl,by simpa [srtB,bl] using World.ownsRow_nil w1 w.heap.size 9 1,HB.out⟩
  · have hlen : (bl X).length = X.length:=bl_len X
    have hH : Holds encStr W gb 0 (bl X).toArray:=holds_of_block hgb (by rw [map_bl,hlen]; simpa using r4)
    have hgl : gb < W.heap.size:=(Array.getElem?_eq_some_iff.1 hgb).1
    have HS:=hid (Tryz.slices_Sort_string gb 0 cap (bl X) W hH hgl (by rw [hlen]; omega))
    rw [hlen] at HS
    have HO:=hid (fun n os=>ownsRow_sorted (n:=n) (os:=os) (ss:=bl X) (ts:=srtB (bl X)) (srtB_len _) hbase hgb (by rw [hlen]; exact r1) r2 r3)
    have HBS:=hid hbase
    clear hrow hnil hb hH r1 r2 r3 r4 hgb
    go_wp2_with fail
    refine HS.out.mono ?_
    rintro e w1 ⟨rfl,nn,os,rfl⟩
    have HBB:=hid (HB.out.grown (grownBy_sorted (w:=W) (g:=gb) (n:=nn) (os:=os) (srtB (bl X)).toArray) HB.out.size (fun j hj=>by cases hj; exact HBS.out))
    have HOO:=hid (HO.out nn os)
    rw [hlen] at HOO
    have HWW:=hid (show ∃ W2,grow (putRow encStr (Sort.ahead W nn) gb 0 ((bl X).mergeSort fun x y=>decide (x <= y)).toArray) os = W2 from ⟨_,rfl⟩)
    obtain ⟨W2,hW2⟩:=HWW.out
    have HOO2:=hid (show W2.ownsRow w.heap.size 9 1 (.slice (some ⟨gb,0,none⟩) X.length cap) X.length ((srtB (bl X)).map encStr) by rw [<- hW2]; exact HOO.out)
    have HBB2:=hid (show Below w.heap.size w W2 by rw [<- hW2]; exact HBB.out)
    rw [hW2]
    clear HOO HBB HO HWW hW2
    go_wp2_with fail
    go_ret
    exact ⟨_,rfl,HOO2.out,HBB2.out⟩
theorem owns_compact {w : World} {base g cap n : Nat} {e : TypeId} {cur : Array Value} {C R : List (List UInt8)} (hbase : base <= g) (hb : w.heap[g]? = some (.cells cur e (0,0)))
    (h1 : C.length + R.length <= cap) (h2 : cap <= maxLen) (h3 : cur.size = cap * 1) :
    (putRow encStr (Sort.ahead w n) g 0 (C ++ R).toArray).ownsRow base e 1 (.slice (some ⟨g,0,none⟩) C.length cap) C.length (C.map encStr):=by
  have hs:=heap_sorted (n:=n) (os:=#[]) (C ++ R).toArray hb
  rw [grow_empty] at hs
  refine ⟨by simp,.inr ⟨g,cap,_,rfl,hbase,hs,by omega,h2,by simp [putCells,h3],?_⟩⟩
  have ht:=take_putCells cur (C ++ R) (by rw [List.length_append]; omega)
  have:=congrArg (List.take C.length) ht
  rw [List.take_take,List.length_append,Nat.min_eq_left (by omega),List.map_append,List.take_append_of_le_length (by simp),List.take_of_length_le (l:=List.map encStr C) (by simp)] at this
  rw [Nat.mul_one]; exact this
theorem grownBy_compact {w : World} {g n : Nat} (d : Array (List UInt8)) : w.grownBy (putRow encStr (Sort.ahead w n) g 0 d) (some g):=by
  have:=grownBy_sorted (w:=w) (g:=g) (n:=n) (os:=#[]) d
  rwa [grow_empty] at this
theorem compact_le (zs : List (List UInt8)) : (Lib.compact zs).length <= zs.length:=by
  unfold Lib.compact Lib.compactUpTo
  rw [List.length_map]
  exact Nat.le_trans (List.length_filter_le _ _) (by simp)
def tx (Z : List (List UInt8)) : List ByteArray:=Z.map ba'
theorem tx_str (Z : List (List UInt8)) : (tx Z).map Value.string = Z.map encStr:=by simp [tx,ba']
theorem bl_tx (Z : List (List UInt8)) : bl (tx Z) = Z:=by
  unfold bl tx
  rw [List.map_map]
  exact (List.map_congr_left fun t _=>show (ba' t).data.toList = t by simp [ba']).trans (List.map_id _)
theorem tx_len (Z : List (List UInt8)) : (tx Z).length = Z.length:=by simp [tx]
theorem own_txB {w : World} {B : Nat} {e : TypeId} {v : Value} {Z : List (List UInt8)} (h : w.ownsRow B e 1 v Z.length (Z.map encStr)) : w.ownsRow B e 1 v (tx Z).length ((tx Z).map Value.string):=by
  rw [tx_str,tx_len]; exact h
set_option maxRecDepth 100000 in
set_option maxHeartbeats 2000000 in
theorem rising_any (X : List ByteArray) (hX : X.length <= 1000000) (sv : Value) (w : World) (hI : TxAt w sv X) :
    Calls Tryz.prog 217 #[sv] w fun e W'=>∃ v,e = .returned v /\ W'.ownsRow w.heap.size 9 1 v (tx (risB (bl X))).length ((tx (risB (bl X))).map Value.string) /\ Below w.heap.size w W':=by
  obtain ⟨a,c,rfl,hac,_⟩:=id hI
  have HV:=hid (values_any a X.length c w)
  have HB1:=hid ((Below.refl w.heap.size w).alloc (Nat.le_refl _) (.cells #[.slice a X.length c] 43))
  have HSO:=hid (sorted_any X hX (.slice a X.length c) (w.alloc (.cells #[.slice a X.length c] 43)) w.heap.size (by simp) (by rw [Lib.cell_of_heap (heap_alloc_new w _)]; rfl) (hI.below HB1.out))
  clear hI hac
  go_enter Tryz.func217,Tryz.ntmps217
  go_wp2_with fail
  refine HV.out.mono ?_
  rintro e w1 ⟨rfl,rfl⟩
  go_wp2_with fail
  refine HSO.out.mono ?_
  rintro e W ⟨v,rfl,hrow,hb⟩
  have HB:=hid (HB1.out.trans (hb.mono (by simp)))
  rcases hrow.2 with ⟨rfl,hz⟩ | ⟨gb,cap,cur,rfl,hbase,hgb,r1,r2,r3,r4⟩
  · have hss : X = []:=List.eq_nil_of_length_eq_zero hz
    subst hss
    have HS:=hid (Tryz.slices_Compact_string_empty none 0 W)
    clear hrow hb hz
    go_wp2_with fail
    refine HS.out.mono ?_
    rintro e w1 ⟨rfl,rfl⟩
    go_wp2_with fail
    go_ret
    exact ⟨_,rfl,by simpa [risB,srtB,bl,tx,Lib.compact,Lib.compactUpTo] using World.ownsRow_nil w1 w.heap.size 9 1,HB.out⟩
  · have hlen : (srtB (bl X)).length = X.length:=by rw [srtB_len,bl_len]
    have hH : Holds encStr W gb 0 (srtB (bl X)).toArray:=holds_of_block hgb (by rw [hlen]; simpa using r4)
    have HS:=hid (Tryz.slices_Compact_string gb 0 cap (srtB (bl X)) W hH (by rw [hlen]; omega) (by rw [hlen]; exact r1))
    rw [hlen] at HS
    have hcl:=compact_le (srtB (bl X))
    have hgw : w.heap.size <= gb:=by simp at hbase; omega
    have HO:=hid (fun n=>owns_compact (n:=n) (base:=w.heap.size) (C:=risB (bl X)) (R:=List.replicate (X.length - (Lib.compact (srtB (bl X))).length) []) hgw hgb (by rw [List.length_replicate]; unfold risB; omega) r2 r3)
    have HBS:=hid hgw
    clear hrow hb hH r1 r2 r3 r4 hgb hbase
    go_wp2_with fail
    refine HS.out.mono ?_
    rintro e w1 ⟨rfl,nn,hw1⟩
    have HBB:=hid (HB.out.grown (grownBy_compact (w:=W) (g:=gb) (n:=nn) (Lib.compact (srtB (bl X)) ++ List.replicate (X.length - (Lib.compact (srtB (bl X))).length) []).toArray) HB.out.size (fun j hj=>by cases hj; exact HBS.out))
    have HOO:=hid (HO.out nn)
    rw [<- hw1] at HBB
    have HOO2:=hid (show w1.ownsRow w.heap.size 9 1 (.slice (some ⟨gb,0,none⟩) (risB (bl X)).length cap) (risB (bl X)).length ((risB (bl X)).map encStr) by rw [hw1]; exact HOO.out)
    clear HOO HO hw1
    go_wp2_with fail
    go_ret
    exact ⟨_,rfl,own_txB HOO2.out,HBB.out⟩
def nonW (L : List Raw) (m : Bm) : Nat:=if idxOf (isM m) L < 0 then 5 else 0
def nonE (L : List Raw) (R : List Bm) (i : Nat) : Nat:=match R[i]? with
  | none=>0
  | some m=>nonW L m
theorem nonE_at {L : List Raw} {R : List Bm} {i : Nat} (h : i < R.length) : nonE L R i = nonW L R[i]:=by unfold nonE; rw [List.getElem?_eq_getElem h]
set_option maxHeartbeats 2000000 in
theorem modsK_any (L : List Raw) (p q : ByteArray) (i : Int) (b : Nat) (v : Value) (A : Nat -> Addr) (m : Int) (W : World) (hL : L.length <= 1000000) (S : Te W A m) (h1 : W.cell? ⟨b,0,none⟩ = some v) (hv : EsAt W v L) :
    Calls Tryz.prog 138 (#[.int .i64 i,.agg #[.string p,.string q]] ++ #[.pointer (some ⟨b,0,none⟩)]) W fun e w'=>e = .returned (errA A (nonW L (p,q))) /\ Below W.heap.size W w':=by
  have HB0:=hid ((Below.refl W.heap.size W).alloc (Nat.le_refl _) (.cells #[.string p,.string q] 25))
  have HF:=hid (find_any L (p,q) v _ hL (hv.below HB0.out))
  obtain ⟨a,c,rfl,_⟩:=hv
  have h1':=cell_below HB0.out h1
  have HG:=hid (fun X (h : Below W.heap.size W X)=>(S.below h).sen.g4)
  clear S
  unfold nonW
  generalize hx : idxOf (isM (p,q)) L = x at HF ⊢
  clear hx
  by_cases h : x < 0
  · rw [if_pos h]
    go_enter Tryz.func138,Tryz.ntmps138
    go_wp2_with fail
    refine HF.out.mono ?_
    rintro e w1 ⟨rfl,hb⟩
    have HB:=hid (HB0.out.trans (hb.mono HB0.out.size))
    have g4:=HG.out _ HB.out
    clear hb
    go_wp2_with fail
    go_ret
    exact ⟨rfl,HB.out⟩
  · rw [if_neg h]
    go_enter Tryz.func138,Tryz.ntmps138
    go_wp2_with fail
    refine HF.out.mono ?_
    rintro e w1 ⟨rfl,hb⟩
    have HB:=hid (HB0.out.trans (hb.mono HB0.out.size))
    clear hb
    go_wp2_with fail
    go_ret
    exact ⟨rfl,HB.out⟩
set_option maxHeartbeats 2000000 in
theorem cmods_any (L : List Raw) (R : List Bm) (v u : Value) (A : Nat -> Addr) (m : Int) (w : World) (hL : L.length <= 1000000) (hR : R.length <= 1000000) (S : Te w A m) (hv : EsAt w v L) (hu : MsAt w u R) :
    Calls Tryz.prog 93 #[v,u] w fun e w'=>∃ x,e = .returned x /\ ErrAt w' A x (codeE (nonE L R) R.length) (fstE (nonE L R) R.length) /\ Below w.heap.size w w':=by
  obtain ⟨a,c,hv1,_⟩:=id hv
  obtain ⟨ua,un,uc,hu1⟩:=hu.slice
  subst hv1
  subst hu1
  have HB0:=hid ((Below.refl w.heap.size w).alloc (Nat.le_refl _) (.cells #[.slice a L.length c] 22))
  have eg : ∀ args w,(callFunc 138 args).run Tryz.prog w = .ok (.enter 138 args) w:=enters_of Tryz.func138 (by kernel_rfl) rfl
  have HF:=hid (first_any 138 #[.pointer (some ⟨w.heap.size,0,none⟩)] (nonE L R) R _ A (w.alloc (.cells #[.slice a L.length c] 22)) eg hR (hu.below HB0.out) (fun i hi W hW=>by
    rw [nonE_at hi]
    exact modsK_any L R[i].1 R[i].2 i w.heap.size _ A m W hL ((S.below HB0.out).below hW) (cell_below hW (by simp)) ((hv.below HB0.out).below hW)))
  clear S hv hu eg
  go_enter Tryz.func93,Tryz.ntmps93
  go_wp2_with fail
  refine HF.out.mono ?_
  rintro e w1 ⟨u,rfl,he,hb⟩
  have HB:=hid (HB0.out.trans (hb.mono HB0.out.size))
  have HE:=hid he
  clear hb he
  go_wp2_with fail
  go_ret
  exact ⟨_,rfl,HE.out,HB.out⟩
set_option maxHeartbeats 4000000 in
theorem checkK_any (L : List Raw) (r : Raw) (R : List Bm) (i : Int) (b : Nat) (v : Value) (A : Nat -> Addr) (m : Int) (W : World) (hL : L.length <= 1000000) (hR : R.length <= 1000000) (S : Te W A m) (h1 : W.cell? ⟨b,0,none⟩ = some v) (hv : EsAt W v L) (hs : slR r) (hr : MsAt W r.2.1 R) :
    Calls Tryz.prog 134 (#[.int .i64 i,rawV r] ++ #[.pointer (some ⟨b,0,none⟩)]) W fun e w'=>e = .returned (errA A (codeE (nonE L R) R.length)) /\ Below W.heap.size W w':=by
  obtain ⟨a,c,hv1,_⟩:=id hv
  obtain ⟨⟨p,q⟩,rv,pv,bk⟩:=r
  obtain ⟨⟨ra,rn,rc,hrv⟩,pa,pn,pc,hpv⟩:=hs
  simp only at hrv hpv hr
  subst hrv
  subst hpv
  subst hv1
  have HB0:=hid ((Below.refl W.heap.size W).alloc (Nat.le_refl _) (.cells #[.string p,.string q,.slice ra rn rc,.slice pa pn pc,.bool bk] 45))
  have HC:=hid (cmods_any L R _ _ A m _ hL hR (S.below HB0.out) (hv.below HB0.out) (hr.below HB0.out))
  have HS:=hid S
  have h1':=cell_below HB0.out h1
  unfold rawV
  clear S hv hr
  go_enter Tryz.func134,Tryz.ntmps134
  go_wp2_with fail
  refine HC.out.mono ?_
  rintro e w1 ⟨x,rfl,he,hb⟩
  have HB:=hid (HB0.out.trans (hb.mono HB0.out.size))
  have HE:=hid (bare_all x _ _ A m w1 (HS.out.below HB.out) he)
  clear hb he
  go_wp2_with fail
  refine HE.out.mono ?_
  rintro e w2 ⟨rfl,hb⟩
  have HB2:=hid (HB.out.trans (hb.mono HB.out.size))
  clear hb
  go_wp2_with fail
  go_ret
  exact ⟨rfl,HB2.out⟩
end Ve
end Go.Proofs.YtlcffhadobhfkaaGreatDoor
