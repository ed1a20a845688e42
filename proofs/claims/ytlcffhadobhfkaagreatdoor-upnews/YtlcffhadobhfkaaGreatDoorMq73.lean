/-
  OrdI OrdK OrdM OrdQ OrdO OrdV OrdU
-/
import Derived.Test.YtlcffhadobhfkaaGreatDoorMq2
import Derived.Test.YtlcffhadobhfkaaGreatDoorMq6
import Derived.Test.YtlcffhadobhfkaaGreatDoorMq5
import Derived.Test.YtlcffhadobhfkaaGreatDoorMq3
import Derived.Test.YtlcffhadobhfkaaGreatDoorMq9
import Derived.Test.YtlcffhadobhfkaaGreatDoorMq11
import Derived.Test.YtlcffhadobhfkaaGreatDoorMq16
import Derived.Test.YtlcffhadobhfkaaGreatDoorMq7
import Derived.Test.YtlcffhadobhfkaaGreatDoorMq18
namespace Go.Proofs.YtlcffhadobhfkaaGreatDoor
open Go.RowKit
namespace Ve
abbrev Rc:=List UInt8 × Value
def rcells (r : Rc) : List Value:=[.int .i64 (nAt r.1 0),.int .i64 (nAt r.1 1),.int .i64 (nAt r.1 2),r.2]
def RcAt (W : World) (g : Nat) (r : Rc) : Prop:=verErr r.1 = 0 /\ r.1.length <= 80 /\ StrsAt W r.2 (strs (preOf r.1)) /\ ∀ b o s n c,r.2 = .slice (some ⟨b,o,s⟩) n c -> b ≠ g
structure Rw (w0 W : World) (g : Nat) (D : List Rc) : Prop where
  bl : Below w0.heap.size w0 W
  lo : w0.heap.size <= g
  hi : g < W.heap.size
  fz : ∀ o,W.frozen? ⟨g,o,none⟩ = false
  rc : ∀ r,r ∈ D -> RcAt W g r
  c0 : ∀ j (h : j < D.length),W.cell? ⟨g,j * 4,none⟩ = some (.int .i64 (nAt D[j].1 0))
  c1 : ∀ j (h : j < D.length),W.cell? ⟨g,j * 4 + 1,none⟩ = some (.int .i64 (nAt D[j].1 1))
  c2 : ∀ j (h : j < D.length),W.cell? ⟨g,j * 4 + 2,none⟩ = some (.int .i64 (nAt D[j].1 2))
  c3 : ∀ j (h : j < D.length),W.cell? ⟨g,j * 4 + 3,none⟩ = some D[j].2
theorem RcAt.below {W W' : World} {g : Nat} {r : Rc} (h : RcAt W g r) (hb : Below W.heap.size W W') : RcAt W' g r:=⟨h.1,h.2.1,h.2.2.1.below hb,h.2.2.2⟩
theorem Rw.below {w0 W W' : World} {g : Nat} {D : List Rc} (h : Rw w0 W g D) (hb : Below W.heap.size W W') : Rw w0 W' g D:=
  ⟨h.bl.trans (hb.mono h.bl.size),h.lo,Nat.lt_of_lt_of_le h.hi hb.size,fun o=>by rw [hb.frozen h.hi]; exact h.fz o,fun r hr=>(h.rc r hr).below hb,
   fun j hj=>cell_below hb (h.c0 j hj),fun j hj=>cell_below hb (h.c1 j hj),fun j hj=>cell_below hb (h.c2 j hj),fun j hj=>cell_below hb (h.c3 j hj)⟩
theorem Rw.at {w0 W : World} {g : Nat} {D : List Rc} (h : Rw w0 W g D) {j : Nat} {r : Rc} (hj : D[j]? = some r) :
    W.cell? ⟨g,j * 4,none⟩ = some (.int .i64 (nAt r.1 0)) /\ W.cell? ⟨g,j * 4 + 1,none⟩ = some (.int .i64 (nAt r.1 1)) /\ W.cell? ⟨g,j * 4 + 2,none⟩ = some (.int .i64 (nAt r.1 2)) /\ W.cell? ⟨g,j * 4 + 3,none⟩ = some r.2:=by
  obtain ⟨hl,rfl⟩:=List.getElem?_eq_some_iff.1 hj
  exact ⟨h.c0 j hl,h.c1 j hl,h.c2 j hl,h.c3 j hl⟩
def Two (w0 W : World) (g j : Nat) (D : List Rc) (y x : Rc) : Prop:=
  W.cell? ⟨g,j * 4,none⟩ = some (.int .i64 (nAt y.1 0)) /\ W.cell? ⟨g,j * 4 + 1,none⟩ = some (.int .i64 (nAt y.1 1)) /\ W.cell? ⟨g,j * 4 + 2,none⟩ = some (.int .i64 (nAt y.1 2)) /\ W.cell? ⟨g,j * 4 + 3,none⟩ = some y.2 /\
  W.cell? ⟨g,(j + 1) * 4,none⟩ = some (.int .i64 (nAt x.1 0)) /\ W.cell? ⟨g,(j + 1) * 4 + 1,none⟩ = some (.int .i64 (nAt x.1 1)) /\ W.cell? ⟨g,(j + 1) * 4 + 2,none⟩ = some (.int .i64 (nAt x.1 2)) /\ W.cell? ⟨g,(j + 1) * 4 + 3,none⟩ = some x.2 /\ Hid (Rw w0 W g D)
theorem Rw.two {w0 W : World} {g : Nat} {D : List Rc} (h : Rw w0 W g D) {j : Nat} {y x : Rc} (hy : D[j]? = some y) (hx : D[j + 1]? = some x) : Two w0 W g j D y x:=by
  obtain ⟨a0,a1,a2,a3⟩:=h.at hy
  obtain ⟨b0,b1,b2,b3⟩:=h.at hx
  exact ⟨a0,a1,a2,a3,b0,b1,b2,b3,h⟩
theorem strs_len (ps : List (List UInt8)) : (strs ps).length = ps.length:=by simp [strs]
theorem pre_small {W : World} {g : Nat} {r : Rc} (h : RcAt W g r) : (strs (preOf r.1)).length <= 1000000 /\ ∀ x,x ∈ strs (preOf r.1) -> x.size <= maxLen:=by
  have h1:=pre_len (l:=r.1)
  refine ⟨by rw [strs_len]; have:=h.2.1; omega,fun x hx=>?_⟩
  have h2 : x.data.toList ∈ preOf r.1:=by rw [<- bl_strs (preOf r.1)]; exact bl_mem hx
  have h3:=pre_size h2
  rw [len_eq] at h3
  have:=h.2.1
  unfold maxLen; omega
theorem compare_rcw (r q : Rc) (g : Nat) (W : World) (hr : RcAt W g r) (hq : RcAt W g q) :
    Calls Tryz.prog 126 #[.agg #[.int .i64 (nAt r.1 0),.int .i64 (nAt r.1 1),.int .i64 (nAt r.1 2),r.2],.agg #[.int .i64 (nAt q.1 0),.int .i64 (nAt q.1 1),.int .i64 (nAt q.1 2),q.2]] W
      fun e w'=>e = .returned (.int .i64 (ordV r.1 q.1)) /\ Bw W.heap.size W w':=by
  have h:=compare_bw (nAt r.1 0) (nAt r.1 1) (nAt r.1 2) (nAt q.1 0) (nAt q.1 1) (nAt q.1 2) r.2 q.2 (strs (preOf r.1)) (strs (preOf q.1)) W (pre_small hr).1 (pre_small hq).1 (pre_small hr).2 (pre_small hq).2 hr.2.2.1 hq.2.2.1
  rw [bl_strs,bl_strs] at h
  exact h
theorem compare_rc (r q : Rc) (g : Nat) (W : World) (hr : RcAt W g r) (hq : RcAt W g q) :
    Calls Tryz.prog 126 #[.agg #[.int .i64 (nAt r.1 0),.int .i64 (nAt r.1 1),.int .i64 (nAt r.1 2),r.2],.agg #[.int .i64 (nAt q.1 0),.int .i64 (nAt q.1 1),.int .i64 (nAt q.1 2),q.2]] W
      fun e w'=>e = .returned (.int .i64 (ordV r.1 q.1)) /\ Below W.heap.size W w':=by
  have h:=compare_any (nAt r.1 0) (nAt r.1 1) (nAt r.1 2) (nAt q.1 0) (nAt q.1 1) (nAt q.1 2) r.2 q.2 (strs (preOf r.1)) (strs (preOf q.1)) W (pre_small hr).1 (pre_small hq).1 (pre_small hr).2 (pre_small hq).2 hr.2.2.1 hq.2.2.1
  rw [bl_strs,bl_strs] at h
  exact h
theorem grow_of_bw {W w' : World} (h : Bw W.heap.size W w') : ∃ q os',w' = Go.Sort.grow (W.drewN q) os':=by
  refine ⟨w'.drawn - W.drawn,w'.heap.extract W.heap.size w'.heap.size,?_⟩
  have hd:=h.dr
  have hh : w'.heap = W.heap ++ w'.heap.extract W.heap.size w'.heap.size:=by
    apply Array.ext_getElem?
    intro i
    by_cases hi : i < W.heap.size
    · rw [Array.getElem?_append_left hi,h.be.block i hi]
    · rw [Array.getElem?_append_right (by omega),Array.getElem?_extract]
      have hs:=h.be.size
      by_cases h2 : i < w'.heap.size
      · rw [if_pos (by omega)]
        congr 1
        omega
      · rw [if_neg (by omega)]
        exact Array.getElem?_eq_none (by omega)
  obtain ⟨a,b,c,d,e⟩:=w'
  obtain ⟨a',b',c',d',e'⟩:=W
  have h1:=h.be.os
  have h2:=h.be.tape
  have h3:=h.be.output
  simp only at h1 h2 h3 hh hd
  subst h1 h2 h3
  simp only [Go.Sort.grow,World.drewN,World.mk.injEq,true_and,and_true]
  exact ⟨hh,by omega⟩
abbrev Rq (w : World) (g : Nat):={ r : Rc // RcAt w g r }
def encR {w : World} {g : Nat} (r : Rq w g) : List Value:=rcells r.1
def cfR {w : World} {g : Nat} (r q : Rq w g) : Int:=ordV r.1.1 q.1.1
theorem swoR (w : World) (g : Nat) : Go.Sort.SWO (ltOf (cfR (w:=w) (g:=g))) where
  irrefl x:=by
    unfold ltOf cfR
    rw [(ordV_zero x.2.1 x.2.1).2 rfl]; rfl
  trans x y z h1 h2:=by
    unfold ltOf cfR at *
    simp only [decide_eq_true_eq] at *
    exact ordV_trans h1 h2
  ntrans x y z h1 h2:=by
    unfold ltOf cfR at *
    simp only [decide_eq_false_iff_not] at *
    intro h
    rcases ordV_range x.1.1 y.1.1 with e | e | e
    · omega
    · have:=(ordV_zero x.2.1 y.2.1).1 e
      rw [this] at h
      exact h2 h
    · have h3 : ordV y.1.1 x.1.1 < 0:=by rw [ordV_swap x.1.1 y.1.1]; omega
      exact h2 (ordV_trans h3 h)
theorem encR_len {w : World} {g : Nat} (r : Rq w g) : (encR r).length = 4:=rfl
theorem RcAt.sorted {w : World} {g : Nat} {r : Rc} (h : RcAt w g r) {α : Type} [Inhabited α] (enc : α -> List Value) (m : Nat) (dk : Array α) (os : Array Obj) : RcAt (sortWorldK enc 4 w g 0 m dk os) g r:=by
  refine ⟨h.1,h.2.1,?_,h.2.2.2⟩
  rcases h.2.2.1 with h0 | ⟨hne,b,e1,e2,e3⟩
  · exact Or.inl h0
  · have hbg : b ≠ g:=h.2.2.2 b 0 none _ _ e1
    refine Or.inr ⟨hne,b,e1,Nat.lt_of_lt_of_le e2 (size_sortWorldK_c enc 4 w g 0 m dk os),fun j hj=>?_⟩
    unfold sortWorldK
    rw [Go.Sort.cell?_grow _ _ _ (by rw [Go.Sort.size_putRowK]; exact e2),Go.Sort.cell?_putRowK_other enc 4 _ g 0 dk _ hbg]
    exact e3 j hj
theorem cmpR (w : World) (g n : Nat) [Inhabited (Rq w g)] : CmpLays Tryz.prog 126 #[] (encR (w:=w) (g:=g)) 4 cfR g 0 n w:=by
  intro m os dk hs x y
  have h:=compare_rcw x.1 y.1 g (sortWorldK encR 4 w g 0 m dk os) (x.2.sorted encR m dk os) (y.2.sorted encR m dk os)
  have e : (#[.agg (encR x).toArray,.agg (encR y).toArray] ++ #[] : Array Value) = #[.agg #[.int .i64 (nAt x.1.1 0),.int .i64 (nAt x.1.1 1),.int .i64 (nAt x.1.1 2),x.1.2],.agg #[.int .i64 (nAt y.1.1 0),.int .i64 (nAt y.1.1 1),.int .i64 (nAt y.1.1 2),y.1.2]]:=by simp [encR,rcells]
  rw [e]
  exact h.mono fun e w' ⟨he,hb⟩=>⟨he,grow_of_bw hb⟩
theorem owns_mono {w : World} {b b' : Nat} {e : TypeId} {size : Nat} {v : Value} {n : Nat} {xs : List Value} (h : w.ownsRow b e size v n xs) (hb : b' <= b) : w.ownsRow b' e size v n xs:=by
  refine ⟨h.1,?_⟩
  rcases h.2 with h | ⟨g,cap,cur,h1,h2,h3⟩
  · exact Or.inl h
  · exact Or.inr ⟨g,cap,cur,h1,Nat.le_trans hb h2,h3⟩
def Kept (L : List ByteArray) (k : Nat) (X : List ByteArray) : Prop:=rises (bl X) /\ ∀ t,t ∈ bl X ↔ t ∈ bl (L.take k) /\ verErr t = 0
def flat (D : List Rc) : List Value:=D.flatMap rcells
theorem flat_app (D E : List Rc) : flat (D ++ E) = flat D ++ flat E:=by simp [flat]
theorem flat_get : ∀ (D : List Rc) (j c : Nat) (hj : j < D.length) (_ : c < 4),(flat D)[j * 4 + c]? = (rcells D[j])[c]?
  | [],_,_,hj,_=>absurd hj (Nat.not_lt_zero _)
  | r :: R,0,c,_,hc=>by
    have : flat (r :: R) = rcells r ++ flat R:=rfl
    rw [this,List.getElem?_append_left (by show 0 * 4 + c < 4; omega)]
    simp
  | r :: R,j + 1,c,hj,hc=>by
    have : flat (r :: R) = rcells r ++ flat R:=rfl
    have hl : (rcells r).length = 4:=rfl
    rw [this,List.getElem?_append_right (by rw [hl]; omega),hl,show (j + 1) * 4 + c - 4 = j * 4 + c by omega]
    exact flat_get R j c (by simpa using hj) hc
structure Fd (w0 W : World) (v : Value) (D : List Rc) : Prop where
  own : W.ownsRow w0.heap.size 144 4 v D.length (flat D)
  nl : D = [] -> v = .slice none 0 0
  bl : Below w0.heap.size w0 W
  rc : ∀ r,r ∈ D -> verErr r.1 = 0 /\ r.1.length <= 80 /\ StrsAt W r.2 (strs (preOf r.1))
theorem Fd.below {w0 W W' : World} {v : Value} {D : List Rc} (h : Fd w0 W v D) (hb : Below W.heap.size W W') : Fd w0 W' v D:=
  ⟨owns_below h.own hb,h.nl,h.bl.trans (hb.mono h.bl.size),fun r hr=>⟨(h.rc r hr).1,(h.rc r hr).2.1,(h.rc r hr).2.2.below hb⟩⟩
theorem own_cells {w : World} {base : Nat} {e : TypeId} {v : Value} {D : List Rc} (h : w.ownsRow base e 4 v D.length (flat D)) (hD : D ≠ []) : ∃ g cap,v = .slice (some ⟨g,0,none⟩) D.length cap /\ base <= g /\ g < w.heap.size /\ D.length <= cap /\ cap <= maxLen /\ (∀ o,w.frozen? ⟨g,o,none⟩ = false) /\
    ∀ j c (hj : j < D.length) (_ : c < 4),w.cell? ⟨g,j * 4 + c,none⟩ = (rcells D[j])[c]?:=by
  obtain ⟨_,⟨_,hn0⟩ | ⟨g,cap,cur,hv,hg,hblk,hcap,hcm,hcs,hct⟩⟩:=h
  · exact absurd (List.length_eq_zero_iff.1 hn0) hD
  · refine ⟨g,cap,hv,hg,lt_of_blk hblk,hcap,hcm,fun o=>by simp [World.frozen?,hblk],fun j c hj hc=>?_⟩
    have h1:=flat_get D j c hj hc
    rw [<- hct,List.getElem?_take,if_pos (by omega)] at h1
    simp only [World.cell?,hblk]
    rw [<- h1]; simp
theorem own_apart {w : World} {base : Nat} {e : TypeId} {v : Value} {D : List Rc} (h : w.ownsRow base e 4 v D.length (flat D)) (hnl : D = [] -> v = .slice none 0 0) {p : Value} {X : List ByteArray} (hs : StrsAt w p X) : ∀ b o s n c,p = .slice (some ⟨b,o,s⟩) n c -> v.ownBlock ≠ some b:=by
  intro b o s n c hp hv
  by_cases hD : D = []
  · rw [hnl hD] at hv; cases hv
  · obtain ⟨g,cap,hvv,_,_,_,_,_,hc⟩:=own_cells h hD
    rw [hvv] at hv
    have hgb : g = b:=by simpa [Value.ownBlock] using hv
    rcases hs with ⟨_,h0⟩ | ⟨hX,b',h1,_,h3⟩
    · rw [h0] at hp; cases hp
    · rw [h1] at hp
      have hbb : b' = b:=by injection hp with hp _ _; injection hp with hp; injection hp with hp _ _
      have h4:=h3 0 (List.length_pos_iff.2 hX)
      have h5:=hc 0 0 (List.length_pos_iff.2 hD) (by omega)
      rw [hbb,<- hgb] at h4
      rw [show 0 * 4 + 0 = 0 + 0 from rfl,h4] at h5
      simp [rcells] at h5
theorem Fd.rw {w0 W : World} {v : Value} {D : List Rc} (h : Fd w0 W v D) (hD : D ≠ []) : ∃ g cap,v = .slice (some ⟨g,0,none⟩) D.length cap /\ Rw w0 W g D:=by
  obtain ⟨g,cap,rfl,h1,h2,_,_,h5,h6⟩:=own_cells h.own hD
  refine ⟨g,cap,rfl,h.bl,h1,h2,h5,fun r hr=>⟨(h.rc r hr).1,(h.rc r hr).2.1,(h.rc r hr).2.2,fun b o s n c e=>?_⟩,fun j hj=>h6 j 0 hj (by omega),fun j hj=>h6 j 1 hj (by omega),fun j hj=>h6 j 2 hj (by omega),fun j hj=>h6 j 3 hj (by omega)⟩
  have:=own_apart h.own h.nl (h.rc r hr).2.2 b o s n c e
  intro e2
  exact this (by simp [Value.ownBlock,e2])
theorem strs_grown {w w' : World} {row : Option Nat} {p : Value} {X : List ByteArray} (h : StrsAt w p X) (hg : w.grownBy w' row) (hne : ∀ b o s n c,p = .slice (some ⟨b,o,s⟩) n c -> row ≠ some b) : StrsAt w' p X:=by
  rcases h with h | ⟨hX,b,h1,h2,h3⟩
  · exact Or.inl h
  · refine Or.inr ⟨hX,b,h1,Nat.lt_of_lt_of_le h2 hg.size,fun j hj=>?_⟩
    have:=hg.block b h2 (fun e=>hne b 0 none _ _ h1 e.symm)
    rw [World.cell?_of_block (a:=⟨b,0 + j,none⟩) this]
    exact h3 j hj
theorem Fd.more {w0 W W3 : World} {v v' : Value} {D : List Rc} {r : Rc} {o : Obj} (h : Fd w0 W v D) (hr : verErr r.1 = 0 /\ r.1.length <= 80 /\ StrsAt W r.2 (strs (preOf r.1)))
    (hown : W3.ownsRow w0.heap.size 144 4 v' (D.length + 1) (flat D ++ rcells r)) (hg : (W.alloc o).grownBy W3 v.ownBlock) : Fd w0 W3 v' (D ++ [r]):=by
  have ha:=(Below.refl W.heap.size W).alloc (Nat.le_refl _) o
  have h':=h.below ha
  have hr' : StrsAt (W.alloc o) r.2 (strs (preOf r.1)):=hr.2.2.below ha
  have e1 : flat (D ++ [r]) = flat D ++ rcells r:=by rw [flat_app]; simp [flat]
  refine ⟨?_,fun e=>by simp at e,?_,fun q hq=>?_⟩
  · rw [e1,List.length_append]; exact hown
  · exact h'.bl.grown hg h'.bl.size (fun k hk=>(h'.own.lt k hk).1)
  · rcases List.mem_append.1 hq with hq | hq
    · have hq':=h'.rc q hq
      exact ⟨hq'.1,hq'.2.1,strs_grown hq'.2.2 hg (own_apart h'.own h'.nl hq'.2.2)⟩
    · rw [List.mem_singleton.1 hq]
      exact ⟨hr.1,hr.2.1,strs_grown hr' hg (own_apart h'.own h'.nl hr')⟩
def srt (D : List Rc) : Prop:=D.Pairwise fun r q=>ordV r.1 q.1 <= 0
theorem sorted_below {w : World} {g : Nat} {α : Type} [Inhabited α] (enc : α -> List Value) (m : Nat) (dk : Array α) (os : Array Obj) (B : Nat) (hB : B <= g) (hz : B <= w.heap.size) : Below B w (sortWorldK enc 4 w g 0 m dk os):=by
  refine ⟨rfl,rfl,rfl,size_sortWorldK_c enc 4 w g 0 m dk os,fun k hk=>?_⟩
  unfold sortWorldK
  rw [Go.Sort.heap_grow_old _ _ (by rw [Go.Sort.size_putRowK]; show k < w.heap.size; omega)]
  unfold Go.Sort.putRowK Go.Sort.putRow
  show (Array.modify (Go.Sort.ahead w m).heap g _)[k]? = _
  rw [Array.getElem?_modify,if_neg (by omega)]
  rfl
theorem holds_rw {w0 w : World} {g : Nat} {D : List Rc} (h : Rw w0 w g D) [Inhabited (Rq w g)] (d : Array (Rq w g)) (hd : d.toList.map (·.1) = D) : Go.Sort.HoldsK encR 4 w g 0 d:=by
  have hl : d.size = D.length:=by rw [<- hd]; simp
  intro t ht
  rw [Go.Sort.size_flatK] at ht
  rw [Go.Sort.get_flatK _ _ _ _ ht]
  have hi : t / 4 < d.size:=by omega
  have e : d[t / 4]!.1 = D[t / 4]'(by omega):=by
    rw [getElem!_pos d (t / 4) hi]
    simp [<- hd]
  refine ⟨?_,by rw [Nat.zero_add]; exact h.fz t⟩
  show w.cell? ⟨g,0 + t,none⟩ = some ((rcells d[t / 4]!.1)[t % 4]!)
  rw [e,Nat.zero_add]
  have hm : t % 4 < 4:=Nat.mod_lt _ (by omega)
  have hdm:=Nat.div_add_mod t 4
  match hc : t % 4,hm with
  | 0,_=>have:=h.c0 (t / 4) (by omega); rw [show t / 4 * 4 = t by omega] at this; exact this
  | 1,_=>have:=h.c1 (t / 4) (by omega); rw [show t / 4 * 4 + 1 = t by omega] at this; exact this
  | 2,_=>have:=h.c2 (t / 4) (by omega); rw [show t / 4 * 4 + 2 = t by omega] at this; exact this
  | 3,_=>have:=h.c3 (t / 4) (by omega); rw [show t / 4 * 4 + 3 = t by omega] at this; exact this
theorem lift_rq {w : World} {g : Nat} : ∀ D : List Rc,(∀ r,r ∈ D -> RcAt w g r) -> ∃ l : List (Rq w g),l.map (·.1) = D
  | [],_=>⟨[],rfl⟩
  | r :: R,h=>by
    obtain ⟨l,e⟩:=lift_rq R (fun q hq=>h q (List.mem_cons_of_mem _ hq))
    exact ⟨⟨r,h r (by simp)⟩ :: l,by simp [e]⟩
theorem sort_rw (w0 w : World) (g cap : Nat) (D : List Rc) (hD : D ≠ []) (h12 : D.length <= 1000) (h : Rw w0 w g D) :
    Calls Tryz.prog 272 #[.slice (some ⟨g,0,none⟩) D.length cap,.func (.func 126) #[] #[]] w fun e w'=>e = .returned (.tuple #[]) /\ ∃ D',D'.Perm D /\ srt D' /\ Rw w0 w' g D':=by
  obtain ⟨r0,R,rfl⟩ : ∃ r R,D = r :: R:=by
    cases D with
    | nil=>exact absurd rfl hD
    | cons r R=>exact ⟨r,R,rfl⟩
  letI : Inhabited (Rq w g):=⟨⟨r0,h.rc r0 (by simp)⟩⟩
  obtain ⟨d,hd⟩ : ∃ d : Array (Rq w g),d.toList.map (·.1) = r0 :: R:=by
    obtain ⟨l,e⟩:=lift_rq (r0 :: R) h.rc
    exact ⟨l.toArray,by simpa using e⟩
  have hl : d.size = (r0 :: R).length:=by rw [<- hd]; simp
  have hH:=holds_rw h d hd
  have eg : ∀ args w,(callFunc 126 args).run Tryz.prog w = .ok (.enter 126 args) w:=enters_of Tryz.func126 (by kernel_rfl) rfl
  have hcon:=AnyQ.slices_SortFunc Tryz.sortParts 4 Tryz.isAgg144 Tryz.sizeOf144 encR encR_len (fun x v hv=>by
    obtain ⟨px,nx,cx,e⟩:=x.2.2.2.1.slice
    simp only [encR,rcells,e,List.mem_cons,List.not_mem_nil,or_false] at hv
    rcases hv with rfl | rfl | rfl | rfl <;> rfl) cfR (swoR w g) 126 #[] g 0 cap d w eg (cmpR w g d.size) hH h.hi (by omega)
  rw [hl] at hcon
  refine Calls.mono hcon ?_
  rintro e w' ⟨he,d',n,os,hp,hs,rfl⟩
  obtain ⟨hsz,_,hperm⟩:=hp
  have hsz' : d'.size = (r0 :: R).length:=hsz.trans hl
  have hHd:=holdsK_sortWorldK_c encR 4 w g 0 d d' n os hH h.hi hsz
  have hpm : d'.toList.Perm d.toList:=by
    have e1 : d'.extract 0 (r0 :: R).length = d':=by rw [<- hsz']; simp
    have e2 : d.extract 0 (r0 :: R).length = d:=by rw [<- hl]; simp
    rw [e1,e2] at hperm
    exact hperm
  have hg : ∀ j (hj : j < (d'.toList.map (·.1)).length),d'[j]! = d'[j]'(by simpa using hj):=fun j hj=>getElem!_pos d' j (by simpa using hj)
  have cell : ∀ j (hj : j < (d'.toList.map (·.1)).length) c (hc : c < 4),(sortWorldK encR 4 w g 0 n d' os).cell? ⟨g,j * 4 + c,none⟩ = some ((rcells (d'.toList.map (·.1))[j])[c]!):=by
    intro j hj c hc
    have h1:=(hHd.cell (i:=j) (c:=c) (by simpa using hj) hc).1
    rw [Nat.zero_add,hg j hj] at h1
    rw [h1]
    simp [encR]
  refine ⟨he,d'.toList.map (·.1),?_,?_,?_⟩
  · rw [<- hd]; exact hpm.map _
  · unfold srt
    rw [List.pairwise_iff_getElem]
    intro i j hi hj hij
    have h1:=hs i j (Nat.zero_le _) hij (by rw [<- hsz']; simpa using hj)
    rw [hg i hi,hg j hj] at h1
    unfold ltOf cfR at h1
    simp only [decide_eq_false_iff_not] at h1
    simp only [List.getElem_map,Array.getElem_toList]
    have h3 : ¬ ordV (d'[j]'(by simpa using hj)).1.1 (d'[i]'(by simpa using hi)).1.1 < 0:=h1
    rw [ordV_swap (d'[i]'(by simpa using hi)).1.1 (d'[j]'(by simpa using hj)).1.1] at h3
    omega
  · refine ⟨h.bl.trans ((sorted_below encR n d' os w0.heap.size h.lo h.bl.size)),h.lo,Nat.lt_of_lt_of_le h.hi (size_sortWorldK_c encR 4 w g 0 n d' os),fun o=>?_,fun r hr=>?_,fun j hj=>?_,fun j hj=>?_,fun j hj=>?_,fun j hj=>?_⟩
    · unfold sortWorldK
      rw [Go.Sort.frozen?_grow _ _ _ (by rw [Go.Sort.size_putRowK]; exact h.hi)]
      unfold Go.Sort.putRowK
      rw [Go.Sort.frozen?_putRow]
      exact h.fz o
    · obtain ⟨x,_,rfl⟩:=List.mem_map.1 hr
      exact x.2.sorted encR n d' os
    · exact cell j hj 0 (by omega)
    · exact cell j hj 1 (by omega)
    · exact cell j hj 2 (by omega)
    · exact cell j hj 3 (by omega)
theorem RcAt.set {W : World} {g : Nat} {r : Rc} (h : RcAt W g r) (o : Nat) (vs : List Value) : RcAt (W.setCells g o vs) g r:=by
  refine ⟨h.1,h.2.1,?_,h.2.2.2⟩
  rcases h.2.2.1 with h0 | ⟨hne,b,e1,e2,e3⟩
  · exact Or.inl h0
  · have hbg : b ≠ g:=h.2.2.2 b 0 none _ _ e1
    refine Or.inr ⟨hne,b,e1,by rw [Go.Sort.size_setCells]; exact e2,fun j hj=>?_⟩
    rw [World.cell?_setCells_out g vs o W _ (fun e=>absurd e hbg)]
    exact e3 j hj
theorem setCells_below {w0 W : World} {g : Nat} (h : Below w0.heap.size w0 W) (hg : w0.heap.size <= g) : ∀ (vs : List Value) (o : Nat),Below w0.heap.size w0 (W.setCells g o vs):=by
  intro vs
  induction vs generalizing W with
  | nil=>intro o; exact h
  | cons v r ih=>intro o; exact ih (h.setCell hg v) (o + 1)
theorem Rw.cell {w0 W : World} {g : Nat} {D : List Rc} (h : Rw w0 W g D) (j : Nat) (hj : j < D.length) (c : Nat) (hc : c < 4) : W.cell? ⟨g,j * 4 + c,none⟩ = (rcells D[j])[c]?:=by
  match c,hc with
  | 0,_=>exact h.c0 j hj
  | 1,_=>exact h.c1 j hj
  | 2,_=>exact h.c2 j hj
  | 3,_=>exact h.c3 j hj
theorem Rw.of_cells {w0 W : World} {g : Nat} {D : List Rc} (h1 : Below w0.heap.size w0 W) (h2 : w0.heap.size <= g) (h3 : g < W.heap.size) (h4 : ∀ o,W.frozen? ⟨g,o,none⟩ = false) (h5 : ∀ r,r ∈ D -> RcAt W g r)
    (h : ∀ j (hj : j < D.length) c (_ : c < 4),W.cell? ⟨g,j * 4 + c,none⟩ = (rcells D[j])[c]?) : Rw w0 W g D:=
  ⟨h1,h2,h3,h4,h5,fun j hj=>h j hj 0 (by omega),fun j hj=>h j hj 1 (by omega),fun j hj=>h j hj 2 (by omega),fun j hj=>h j hj 3 (by omega)⟩
theorem Rw.setAt {w0 W : World} {g : Nat} {D : List Rc} (h : Rw w0 W g D) (i : Nat) (hi : i < D.length) (r : Rc) (hr : RcAt W g r) : Rw w0 (W.setCells g (i * 4) (rcells r)) g (D.set i r):=by
  refine Rw.of_cells (setCells_below h.bl h.lo _ _) h.lo (by rw [Go.Sort.size_setCells]; exact h.hi) (fun o=>by rw [World.frozen?_setCells]; exact h.fz o) (fun q hq=>?_) (fun j hj c hc=>?_)
  · rcases List.mem_or_eq_of_mem_set hq with hq | hq
    · exact (h.rc q hq).set _ _
    · rw [hq]; exact hr.set _ _
  · have hj' : j < D.length:=by simpa using hj
    by_cases e : j = i
    · subst e
      have:=World.cell?_setCells_in g (rcells r) (j * 4) W (fun t ht=>by
        have h9 : t < 4:=ht
        rw [h.cell j hj' t h9]
        match t,h9 with
        | 0,_=>rfl
        | 1,_=>rfl
        | 2,_=>rfl
        | 3,_=>rfl) c hc
      rw [this]
      simp
      exact (List.getElem?_eq_getElem (show c < (rcells r).length from hc)).symm
    · rw [World.cell?_setCells_out g (rcells r) (i * 4) W _ (fun _ _=>by
        show j * 4 + c < i * 4 \/ i * 4 + 4 <= j * 4 + c
        omega),h.cell j hj' c hc]
      rw [List.getElem_set_ne (by omega)]
theorem Rw.cleared {w0 W : World} {g : Nat} {D : List Rc} (h : Rw w0 W g D) (n : Nat) (hn : n <= D.length) (zs : List Value) : Rw w0 (W.setCells g (n * 4) zs) g (D.take n):=by
  refine Rw.of_cells (setCells_below h.bl h.lo _ _) h.lo (by rw [Go.Sort.size_setCells]; exact h.hi) (fun o=>by rw [World.frozen?_setCells]; exact h.fz o) (fun q hq=>(h.rc q (List.mem_of_mem_take hq)).set _ _) (fun j hj c hc=>?_)
  have hj' : j < n:=by simp at hj; omega
  rw [World.cell?_setCells_out g zs (n * 4) W _ (fun _ _=>Or.inl (by show j * 4 + c < n * 4; omega)),h.cell j (by omega) c hc,List.getElem_take]
theorem run_clear_rw {w0 W : World} {g : Nat} {D : List Rc} (h : Rw w0 W g D) (n : Nat) (hn : n < D.length) :
    ∃ zs,∀ ty c,(Builtin.clear_ #[272] ty #[.slice (some ⟨g,n * 4,none⟩) (D.length - n) c]).run Tryz.prog W = .ok (.tuple #[]) (W.setCells g (n * 4) zs):=by
  have hzl : (Builtin.zeroCells (Value.agg #[.int .i64 0,.int .i64 0,.int .i64 0,.slice none 0 0]).cells (D.length - n)).toList.length = (D.length - n) * 4:=by
    simp [Builtin.zeroCells,Value.cells]
  refine ⟨(Builtin.zeroCells (Value.agg #[.int .i64 0,.int .i64 0,.int .i64 0,.slice none 0 0]).cells (D.length - n)).toList,fun ty c=>?_⟩
  have hst:=run_storeCells_cells (P:=Tryz.prog) g (n * 4) (Builtin.zeroCells (Value.agg #[.int .i64 0,.int .i64 0,.int .i64 0,.slice none 0 0]).cells (D.length - n)).toList 0 W (fun j hj=>by
    rw [hzl] at hj
    have e : n * 4 + 0 + j = (n + j / 4) * 4 + j % 4:=by omega
    rw [e,h.cell (n + j / 4) (by omega) (j % 4) (by omega)]
    have h9 : j % 4 < 4:=by omega
    match j % 4,h9 with
    | 0,_=>rfl
    | 1,_=>rfl
    | 2,_=>rfl
    | 3,_=>rfl) (fun j _=>h.fz _) (fun v hv=>by
    simp only [Builtin.zeroCells,Value.cells] at hv
    simp at hv
    obtain ⟨t,_,rfl⟩:=hv
    have h9 : t % 4 < 4:=by omega
    match t % 4,h9 with
    | 0,_=>rfl
    | 1,_=>rfl
    | 2,_=>rfl
    | 3,_=>rfl)
  simp only [Nat.add_zero] at hst
  obtain ⟨m,hm⟩ : ∃ m,D.length - n = m + 1:=⟨D.length - n - 1,by omega⟩
  rw [hm] at hst ⊢
  have hu:=Tryz.underlying272
  have hv : ∀ w,(zeroValue 144).run Tryz.prog w = .ok (.agg #[.int .i64 0,.int .i64 0,.int .i64 0,.slice none 0 0]) w:=fun w=>Tryz.zeroValue144 w
  simp [Builtin.clear_,run_underlying hu,hv,hst]
theorem srt_strict {D : List Rc} (hs : srt D) (hv : ∀ r,r ∈ D -> verErr r.1 = 0) {i k : Nat} (hik : i <= k) (hk : k + 1 < D.length) (hne : ordV D[k + 1].1 (D[k]'(by omega)).1 ≠ 0) : ordV (D[i]'(by omega)).1 D[k + 1].1 < 0:=by
  unfold srt at hs
  rw [List.pairwise_iff_getElem] at hs
  have hi : i < D.length:=by omega
  have hk' : k < D.length:=by omega
  have v1:=hv D[i] (List.getElem_mem hi)
  have v2:=hv D[k + 1] (List.getElem_mem hk)
  have v3:=hv D[k] (List.getElem_mem hk')
  have h1:=hs i (k + 1) hi hk (by omega)
  have h2:=hs k (k + 1) hk' hk (by omega)
  rcases ordV_range D[i].1 D[k + 1].1 with e | e | e
  · omega
  · exfalso
    have e1:=(ordV_zero v1 v2).1 e
    rcases Nat.lt_or_ge i k with h | h
    · have h3:=hs i k hi hk' h
      rw [e1,ordV_swap D[k].1 D[k + 1].1] at h3
      have h4 : ordV D[k].1 D[k + 1].1 = 0:=by omega
      rw [ordV_swap D[k].1 D[k + 1].1] at hne
      omega
    · have : i = k:=by omega
      subst this
      rw [ordV_swap D[i].1 D[i + 1].1,e] at hne
      exact hne rfl
  · omega
structure Cp (D : List Rc) (m : Nat) (E : List Rc) : Prop where
  ri : rises (E.map (·.1))
  mem : ∀ t,t ∈ E.map (·.1) ↔ t ∈ (D.take m).map (·.1)
  len : E.length <= m
  sub : ∀ r,r ∈ E -> r ∈ D
theorem take_snoc' (D : List Rc) (m : Nat) (hm : m < D.length) : (D.take (m + 1)).map (·.1) = (D.take m).map (·.1) ++ [D[m].1]:=by
  rw [List.take_succ_eq_append_getElem hm,List.map_append]; rfl
theorem Cp.same {D E : List Rc} {m : Nat} (h : Cp D (m + 1) E) (hv : ∀ r,r ∈ D -> verErr r.1 = 0) (hm : m + 1 < D.length) (he : ordV D[m + 1].1 (D[m]'(by omega)).1 = 0) : Cp D (m + 1 + 1) E:=by
  have e1:=(ordV_zero (hv _ (List.getElem_mem hm)) (hv _ (List.getElem_mem (by omega)))).1 he
  refine ⟨h.ri,fun t=>?_,by have:=h.len; omega,h.sub⟩
  rw [h.mem,take_snoc' D (m + 1) hm,List.mem_append,List.mem_singleton]
  constructor
  · exact Or.inl
  · rintro (a | a)
    · exact a
    · rw [a,e1,take_snoc' D m (by omega),List.mem_append]
      exact Or.inr (by simp)
theorem Cp.more {D E : List Rc} {m : Nat} (h : Cp D (m + 1) E) (hs : srt D) (hv : ∀ r,r ∈ D -> verErr r.1 = 0) (hm : m + 1 < D.length) (he : ordV D[m + 1].1 (D[m]'(by omega)).1 ≠ 0) : Cp D (m + 1 + 1) (E ++ [D[m + 1]]):=by
  refine ⟨?_,fun t=>?_,by have:=h.len; simp; omega,fun r hr=>?_⟩
  · unfold rises
    rw [List.map_append,List.pairwise_append]
    refine ⟨h.ri,List.pairwise_singleton _ _,fun a ha b hb=>?_⟩
    have hb' : b = D[m + 1].1:=by simpa using hb
    rw [hb']
    obtain ⟨r,hr,e⟩:=List.mem_map.1 ((h.mem a).1 ha)
    obtain ⟨i,hi,e2⟩:=List.mem_iff_getElem.1 hr
    rw [List.getElem_take] at e2
    simp at hi
    rw [<- e,<- e2]
    exact srt_strict hs hv (by omega) hm he
  · rw [List.map_append,List.mem_append,h.mem,take_snoc' D (m + 1) hm,List.mem_append]
    simp
  · rcases List.mem_append.1 hr with hr | hr
    · exact h.sub r hr
    · rw [List.mem_singleton.1 hr]; exact List.getElem_mem hm
theorem Cp.start {D : List Rc} (hD : 0 < D.length) : Cp D 1 (D.take 1):=by
  match D,hD with
  | r :: R,_=>exact ⟨List.pairwise_singleton _ _,fun t=>Iff.rfl,by simp,fun q hq=>List.mem_of_mem_take hq⟩
theorem Cp.plain {D : List Rc} {m : Nat} (h : Cp D (m + 1) (D.take (m + 1))) (hs : srt D) (hv : ∀ r,r ∈ D -> verErr r.1 = 0) (hm : m + 1 < D.length) (he : ordV D[m + 1].1 (D[m]'(by omega)).1 ≠ 0) : Cp D (m + 1 + 1) (D.take (m + 1 + 1)):=by
  have:=h.more hs hv hm he
  rw [List.take_succ_eq_append_getElem hm]
  exact this
end Ve
end Go.Proofs.YtlcffhadobhfkaaGreatDoor
