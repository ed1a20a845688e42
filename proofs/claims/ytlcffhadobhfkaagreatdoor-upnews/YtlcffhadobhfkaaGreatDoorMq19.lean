/-
  MsB GrB IxA LawM FileB Bare
-/
import Derived.Test.YtlcffhadobhfkaaGreatDoorMq2
import Derived.Test.YtlcffhadobhfkaaGreatDoorMq6
import Derived.Test.YtlcffhadobhfkaaGreatDoorMq11
import Derived.Test.YtlcffhadobhfkaaGreatDoorMq9
import Derived.Test.YtlcffhadobhfkaaGreatDoorMq18
import Derived.Test.YtlcffhadobhfkaaGreatDoorMq5
import Derived.Test.YtlcffhadobhfkaaGreatDoorMq3
namespace Go.Proofs.YtlcffhadobhfkaaGreatDoor
open Go.RowKit
namespace Ve
def flatM (L : List Bm) : List Value:=L.flatMap fun m=>[.string m.1,.string m.2]
theorem flatM_len (L : List Bm) : (flatM L).length = L.length * 2:=by
  induction L with
  | nil=>rfl
  | cons r R ih=>
    have : flatM (r :: R) = [.string r.1,.string r.2] ++ flatM R:=rfl
    rw [this,List.length_append,ih]
    show 2 + R.length * 2 = (R.length + 1) * 2
    omega
theorem flatM_app (D E : List Bm) : flatM (D ++ E) = flatM D ++ flatM E:=by simp [flatM]
theorem flatM_get : ∀ (D : List Bm) (j c : Nat) (hj : j < D.length) (_ : c < 2),(flatM D)[j * 2 + c]? = [Value.string D[j].1,Value.string D[j].2][c]?
  | [],_,_,hj,_=>absurd hj (Nat.not_lt_zero _)
  | r :: R,0,c,_,hc=>by
    have : flatM (r :: R) = [.string r.1,.string r.2] ++ flatM R:=rfl
    rw [this,List.getElem?_append_left (by show 0 * 2 + c < 2; omega)]
    simp
  | r :: R,j + 1,c,hj,hc=>by
    have : flatM (r :: R) = [.string r.1,.string r.2] ++ flatM R:=rfl
    rw [this,List.getElem?_append_right (by show 2 <= (j + 1) * 2 + c; omega),show (j + 1) * 2 + c - [Value.string r.1,Value.string r.2].length = j * 2 + c by simp; omega]
    exact flatM_get R j c (by simpa using hj) hc
theorem own_ms {w : World} {base : Nat} {e : TypeId} {v : Value} {L : List Bm} (h : w.ownsRow base e 2 v L.length (flatM L)) : MsAt w v L:=by
  obtain ⟨_,⟨hv,hn0⟩ | ⟨g,cap,cur,hv,hg,hblk,hcap,hcm,hcs,hct⟩⟩:=h
  · exact ⟨none,0,by rw [hv,hn0],by omega,fun hL=>absurd (List.length_eq_zero_iff.1 hn0) hL⟩
  · refine ⟨_,cap,hv,hcap,fun _=>⟨g,0,rfl,fun j hj=>?_⟩⟩
    have go : ∀ c,c < 2 -> w.cell? ⟨g,0 + j * 2 + c,none⟩ = [Value.string L[j].1,Value.string L[j].2][c]?:=fun c hc=>by
      have h1:=flatM_get L j c hj hc
      rw [<- hct,List.getElem?_take,if_pos (by omega)] at h1
      simp only [World.cell?,hblk]
      rw [<- h1]; simp
    exact ⟨by have:=go 0 (by omega); simpa using this,by have:=go 1 (by omega); simpa using this⟩
theorem own_ne2 {w : World} {B : Nat} {e T : TypeId} {v : Value} {n : Nat} {xs : List Value} {b : Nat} {cs : Array Value} {fr : Nat × Nat} (hown : w.ownsRow B e 2 v n xs) (hb : w.heap[b]? = some (.cells cs T fr)) (hTe : T ≠ e) : v.ownBlock ≠ some b:=by
  rcases hown.2 with ⟨rfl,_⟩ | ⟨g,cap,cur,rfl,_,hg,_⟩
  · simp [Value.ownBlock]
  · intro h
    simp only [Value.ownBlock,Option.some.injEq] at h
    subst h
    rw [hg] at hb
    simp only [Option.some.injEq,Obj.cells.injEq] at hb
    exact hTe hb.2.1.symm
theorem keep_set {W : World} {fb o b : Nat} {x : Value} {ob : Obj} (h : W.heap[b]? = some ob) (hne : b ≠ fb) : (W.setCell ⟨fb,o,none⟩ x).heap[b]? = some ob:=by
  rw [Below.heap_setCell _ _ _ _ hne]; exact h
theorem set_block {W : World} {fb o : Nat} {cs : Array Value} {T : TypeId} {x : Value} (h : W.heap[fb]? = some (.cells cs T (0,0))) : (W.setCell ⟨fb,o,none⟩ x).heap[fb]? = some (.cells (cs.setIfInBounds o x) T (0,0)):=by
  simp [World.setCell,Array.getElem?_modify,h]
theorem owns_set {W : World} {B fb o n : Nat} {e : TypeId} {v x : Value} {xs : List Value} (h : W.ownsRow B e 2 v n xs) (hne : v.ownBlock ≠ some fb) : (W.setCell ⟨fb,o,none⟩ x).ownsRow B e 2 v n xs:=
  h.kept (row:=some fb) ⟨rfl,rfl,rfl,by simp [World.setCell],fun k _ hk=>Below.heap_setCell _ _ _ _ (fun e=>hk (by simp [e]))⟩ (Or.inr hne)
theorem owns_far {W W3 : World} {B n : Nat} {e : TypeId} {v : Value} {xs : List Value} {row : Option Nat} (h : W.ownsRow B e 2 v n xs) (hg : W.grownBy W3 row) (hne : ∀ g,v.ownBlock = some g -> row ≠ some g) : W3.ownsRow B e 2 v n xs:=by
  obtain ⟨hl,h | ⟨g,cap,cur,e1,e2,e3,e4,e5,e6,e7⟩⟩:=h
  · exact ⟨hl,Or.inl h⟩
  · refine ⟨hl,Or.inr ⟨g,cap,cur,e1,e2,?_,e4,e5,e6,e7⟩⟩
    rw [hg.block g (lt_of_blk e3) (fun h=>hne g (by rw [e1]; rfl) h.symm)]; exact e3
theorem own_lt {W : World} {B n g : Nat} {e : TypeId} {v : Value} {xs : List Value} (h : W.ownsRow B e 2 v n xs) (hv : v.ownBlock = some g) : g < W.heap.size /\ B <= g:=by
  obtain ⟨hl,⟨h,_⟩ | ⟨g',cap,cur,e1,e2,e3,_⟩⟩:=h
  · rw [h] at hv; cases hv
  · rw [e1] at hv
    have : g' = g:=by simpa [Value.ownBlock] using hv
    subst this
    exact ⟨lt_of_blk e3,e2⟩
theorem heap_new (w : World) (o : Obj) : (w.alloc o).heap[w.heap.size]? = some o:=heap_alloc_new w o
theorem heap_old (w : World) (o : Obj) {b : Nat} {x : Obj} (h : w.heap[b]? = some x) : (w.alloc o).heap[b]? = some x:=by
  rw [((Below.refl w.heap.size w).alloc (Nat.le_refl _) o).block b (lt_of_blk h)]; exact h
theorem own_sl {W : World} {B n : Nat} {e : TypeId} {v : Value} {xs : List Value} (h : W.ownsRow B e 2 v n xs) : ∃ a n c,v = .slice a n c:=by
  obtain ⟨_,⟨h,_⟩ | ⟨g,cap,cur,e1,_⟩⟩:=h
  · exact ⟨_,_,_,h⟩
  · exact ⟨_,_,_,e1⟩
theorem ms_flat {w : World} {b o : Nat} {L : List Bm} (hc : ∀ j (h : j < L.length),w.cell? ⟨b,o + j * 2,none⟩ = some (.string L[j].1) /\ w.cell? ⟨b,o + j * 2 + 1,none⟩ = some (.string L[j].2)) : ∀ j u,(flatM L)[j]? = some u -> w.cell? ⟨b,o + j,none⟩ = some u:=by
  intro j u hj
  have hl : j < L.length * 2:=by rw [<- flatM_len]; exact (List.getElem?_eq_some_iff.1 hj).1
  have h1:=flatM_get L (j / 2) (j % 2) (by omega) (by omega)
  rw [show j / 2 * 2 + j % 2 = j by omega,hj] at h1
  have h2:=hc (j / 2) (by omega)
  rcases Nat.mod_two_eq_zero_or_one j with e | e
  · rw [e] at h1
    have : u = .string L[j / 2].1:=by simpa using h1
    rw [this,<- h2.1]
    congr 2; omega
  · rw [e] at h1
    have : u = .string L[j / 2].2:=by simpa using h1
    rw [this,<- h2.2]
    congr 2; omega
theorem flat_one (L : List Bm) : ∀ u ∈ flatM L,u.oneCell' = true:=by
  intro u hu
  obtain ⟨m,_,hm⟩:=List.mem_flatMap.1 hu
  simp at hm
  rcases hm with rfl | rfl <;> rfl
theorem infoMod : (Tryz.prog.info? 25).map (fun i=>(i.zero,i.size,i.bytes)) = some (some (.agg #[.string ⟨#[]⟩,.string ⟨#[]⟩]),2,32):=by kernel_rfl
open Go.Maps
theorem gLaidOut : laidOutB Tryz.prog = true:=by kernel_rfl
theorem modRow : 25 < Tryz.prog.types.size:=of_decide_eq_true (by kernel_rfl)
theorem modDeep : Tryz.prog.keyTypeAt 2 25 = true:=by kernel_rfl
theorem modKeyT : Tryz.prog.keyType 25 = true:=by kernel_rfl
theorem modKey : Keyed Tryz.prog 25:=Keyed.of_law (deep_law_laid gLaidOut (m:=2) (by omega) modRow modDeep (by kernel_rfl))
theorem gCellsMod : Tryz.prog.cellsOf 25 = 2:=by kernel_rfl
theorem gCellsStr : Tryz.prog.cellsOf 9 = 1:=by kernel_rfl
def modV (m : Bm) : Value:=.agg #[.string m.1,.string m.2]
def kL (m : Bm) : Lit:=.string (keyBytes [.string m.1.data.toList,.string m.2.data.toList])
theorem keyLits_mod (n : Nat) (m : Bm) (h1 : m.1.size <= maxLen) (h2 : m.2.size <= maxLen) : Tryz.prog.keyLits (n + 2) 25 [.string m.1,.string m.2] = some [.string m.1.data.toList,.string m.2.data.toList]:=by
  unfold Program.keyLits
  rw [Tryz.underlying25]
  simp [gCellsMod,gCellsStr,Program.keyLits,Tryz.underlying9,h1,h2]
theorem keyOf_mod (m : Bm) (h1 : m.1.size <= maxLen) (h2 : m.2.size <= maxLen) : keyOf Tryz.prog 25 (modV m) = some (kL m):=by
  have hf : (modV m).formed Tryz.prog 25 = true:=by
    simp [modV,Value.formed,Tryz.underlying25,gCellsMod]
  have hl : Tryz.prog.keyLits (Tryz.prog.types.size + 1) 25 (modV m).cells.toList = some [.string m.1.data.toList,.string m.2.data.toList]:=by
    obtain ⟨n,hn⟩ : ∃ n,Tryz.prog.types.size + 1 = n + 2:=⟨Tryz.prog.types.size - 1,by have:=modRow; omega⟩
    rw [hn]
    exact keyLits_mod n m h1 h2
  unfold keyOf
  rw [Tryz.underlying25]
  simp only
  rw [if_pos (by rw [modKeyT,hf]; rfl),hl]
  rfl
theorem kL_inj {a b : Bm} (ha1 : a.1.size <= maxLen) (ha2 : a.2.size <= maxLen) (hb1 : b.1.size <= maxLen) (hb2 : b.2.size <= maxLen) (h : kL a = kL b) : a = b:=by
  have h1:=keyOf_mod a ha1 ha2
  have h2:=keyOf_mod b hb1 hb2
  rw [h] at h1
  have:=modKey.inj h1 h2
  simp only [modV,Value.agg.injEq,Array.mk.injEq,List.cons.injEq,Value.string.injEq,and_true] at this
  exact Prod.ext this.1 this.2
theorem kL_key (m : Bm) : WideAt.IsKeyLit (kL m):=trivial
def rB : Value -> Option (DataW Bm × List MemPlace)
  | .agg cs=>match cs.toList with
    | [.string a,.string b]=>some (.held (a,b),[])
    | _=>none
  | _=>none
theorem rB_mod (m : Bm) : rB (modV m) = some (.held m,[]):=rfl
theorem rB_inv {v : Value} {m : Bm} {ps : List MemPlace} (h : rB v = some (.held m,ps)) : v = modV m:=by
  cases v with
  | agg cs=>
    simp only [rB] at h
    split at h
    · rename_i a b e
      simp only [Option.some.injEq,Prod.mk.injEq,DataW.held.injEq] at h
      obtain ⟨h1,_⟩:=h
      subst h1
      unfold modV
      congr 1
      exact Array.toList_inj.1 e
    · cases h
  | _=>cases h
def datB (T : By) : DataW Bm:=T.foldl (fun D x=>D.put (kL x.1) (.held x.2)) (.map [])
theorem datB_app (T : By) (m f : Bm) : datB (T ++ [(m,f)]) = (datB T).put (kL m) (.held f):=by simp [datB,List.foldl_append]
def szT (T : By) : Prop:=∀ x,x ∈ T -> x.1.1.size <= maxLen /\ x.1.2.size <= maxLen
theorem datB_has {m : Bm} (h1 : m.1.size <= maxLen) (h2 : m.2.size <= maxLen) : ∀ {T : By},szT T -> has (datB T) (kL m) = cameB T m:=fun {T} hT=>by
  suffices ∀ (T : By) (D : DataW Bm),IsMap D -> szT T -> has (T.foldl (fun D x=>D.put (kL x.1) (.held x.2)) D) (kL m) = (has D (kL m) || cameB T m) by
    have:=this T (.map []) isMap_empty hT
    unfold datB
    rw [this]
    simp [has_eq]
  intro T
  induction T with
  | nil=>intro D _ _; simp [cameB]
  | cons x r ih=>
    intro D hD hs
    rw [List.foldl_cons,ih _ (hD.put _ _) (fun y hy=>hs y (List.mem_cons_of_mem _ hy))]
    by_cases e : x.1 = m
    · subst e
      rw [has_put_same hD (kL_key _)]
      simp [cameB]
    · have hx:=hs x (by simp)
      rw [has_put_other (fun he=>e (kL_inj hx.1 hx.2 h1 h2 he.symm))]
      have : cameB (x :: r) m = cameB r m:=by
        unfold cameB
        rw [List.any_cons,decide_eq_false (fun he=>e (Prod.ext he.1 he.2)),Bool.false_or]
      rw [this]
theorem datB_held (T : By) (k : Lit) (z : Bm) : ∃ x,(datB T).atKey k (.held z) = .held x:=by
  suffices ∀ (T : By) (D : DataW Bm),IsMap D -> (∃ x,D.atKey k (.held z) = .held x) -> ∃ x,(T.foldl (fun D x=>D.put (kL x.1) (.held x.2)) D).atKey k (.held z) = .held x from this T _ isMap_empty ⟨z,rfl⟩
  intro T
  induction T with
  | nil=>exact fun D _ h=>h
  | cons x r ih=>
    intro D hD h
    refine ih _ (hD.put _ _) ?_
    by_cases e : k = kL x.1
    · subst e
      exact ⟨x.2,atKey_put_same hD (kL_key _) _ _⟩
    · rw [atKey_put_other e]
      exact h
def ByAt (w : World) (b : Nat) (T : By) : Prop:=w.ownsMap Tryz.prog 25 rB b T.length (datB T)
theorem ByAt.below {w w' : World} {b : Nat} {T : By} (h : ByAt w b T) (hb : Below w.heap.size w w') : ByAt w' b T:=by
  have hlt:=World.ownsMap.lt h
  obtain ⟨es,clock,h1,F,hs,hD⟩:=h
  exact ⟨es,clock,(hb.block b hlt).trans h1,F,hs,hD⟩
theorem ByAt.heap {w w' : World} {b : Nat} {T : By} (h : ByAt w b T) (hb : w'.heap[b]? = w.heap[b]?) : ByAt w' b T:=by
  obtain ⟨es,clock,h1,F,hs,hD⟩:=h
  exact ⟨es,clock,hb.trans h1,F,hs,hD⟩
theorem zeroMod (w : World) : (zeroValue 25).run Tryz.prog w = .ok (modV (⟨#[]⟩,⟨#[]⟩)) w:=Tryz.zeroValue25 w
set_option maxRecDepth 100000 in
set_option maxHeartbeats 1000000 in
theorem came_any (b : Nat) (T : By) (m : Bm) (w : World) (hm : m.1.size <= maxLen /\ m.2.size <= maxLen) (hT : szT T) (h : ByAt w b T) :
    Calls Tryz.prog 68 #[.map (some b),.agg #[.string m.1,.string m.2]] w fun e w'=>e = .returned (.bool (cameB T m)) /\ Below w.heap.size w w':=by
  have HB:=hid ((Below.refl w.heap.size w).alloc (Nat.le_refl _) (.cells #[.string m.1,.string m.2] 25))
  obtain ⟨v,ps,hrun,hv⟩:=World.ownsMap.look_ok (h.below HB.out) modKey Tryz.underlying86 (zeroMod _) (rB_mod _) (keyOf_mod m hm.1 hm.2)
  rw [datB_has hm.1 hm.2 hT] at hrun
  obtain ⟨x,hx⟩:=datB_held T (kL m) (⟨#[]⟩,⟨#[]⟩)
  rw [hx] at hv
  obtain rfl:=rB_inv hv
  unfold modV at hrun
  clear h hv hx hm hT
  go_enter Tryz.func68,Tryz.ntmps68
  go_wp2_with fail
  go_ret
  exact ⟨rfl,HB.out.alloc HB.out.size _⟩
abbrev Raw:=Bm × Value × Value × Bool
def rawV (r : Raw) : Value:=.agg #[.string r.1.1,.string r.1.2,r.2.1,r.2.2.1,.bool r.2.2.2]
def slR (r : Raw) : Prop:=(∃ a n c,r.2.1 = .slice a n c) /\ ∃ a n c,r.2.2.1 = .slice a n c
def EsAt (w : World) (v : Value) (L : List Raw) : Prop:=
  ∃ (a : Option Addr) (c : Nat),v = .slice a L.length c /\ L.length <= c /\ (∀ r,r ∈ L -> slR r) /\ (L ≠ [] -> ∃ b o,a = some ⟨b,o,none⟩ /\ ∀ j (h : j < L.length),w.cell? ⟨b,o + j * 5,none⟩ = some (.string L[j].1.1) /\ w.cell? ⟨b,o + j * 5 + 1,none⟩ = some (.string L[j].1.2) /\
    w.cell? ⟨b,o + j * 5 + 2,none⟩ = some L[j].2.1 /\ w.cell? ⟨b,o + j * 5 + 3,none⟩ = some L[j].2.2.1 /\ w.cell? ⟨b,o + j * 5 + 4,none⟩ = some (.bool L[j].2.2.2))
theorem EsAt.below {w w' : World} {v : Value} {L : List Raw} (h : EsAt w v L) (hb : Below w.heap.size w w') : EsAt w' v L:=by
  obtain ⟨a,c,e,hc,hs,h⟩:=h
  refine ⟨a,c,e,hc,hs,fun hL=>?_⟩
  obtain ⟨b,o,e2,h2⟩:=h hL
  exact ⟨b,o,e2,fun j hj=>⟨cell_below hb (h2 j hj).1,cell_below hb (h2 j hj).2.1,cell_below hb (h2 j hj).2.2.1,cell_below hb (h2 j hj).2.2.2.1,cell_below hb (h2 j hj).2.2.2.2⟩⟩
def idxE (P : Raw -> Bool) (L : List Raw) (i : Nat) : Nat:=match L[i]? with
  | some r=>if P r then 1 else 0
  | none=>0
def idxOf (P : Raw -> Bool) (L : List Raw) : Int:=match fstE (idxE P L) L.length with
  | some k=>(k : Int)
  | none=>-1
theorem idxE_at {P : Raw -> Bool} {L : List Raw} {i : Nat} (h : i < L.length) : idxE P L i = if P L[i] then 1 else 0:=by unfold idxE; rw [List.getElem?_eq_getElem h]
theorem idxE_zero {P : Raw -> Bool} {L : List Raw} {n : Nat} (hn : n <= L.length) (h : ∀ j (hj : j < L.length),j < n -> P L[j] = false) : ∀ j,j < n -> idxE P L j = 0:=fun j hj=>by
  rw [idxE_at (by omega),h j (by omega) hj]; rfl
theorem idx_hit {P : Raw -> Bool} {L : List Raw} {k : Nat} (hk : k < L.length) (h0 : ∀ j (hj : j < L.length),j < k -> P L[j] = false) (h : P L[k] = true) : idxOf P L = (k : Int):=by
  unfold idxOf
  rw [fstE_some (idxE_zero (by omega) h0) (by rw [idxE_at hk,if_pos h]; decide) hk]
theorem idx_next {P : Raw -> Bool} {L : List Raw} {k : Nat} (hk : k < L.length) (h0 : ∀ j (hj : j < L.length),j < k -> P L[j] = false) (h : P L[k] = false) : ∀ j (hj : j < L.length),j < k + 1 -> P L[j] = false:=fun j hj hjk=>by
  rcases Nat.lt_or_ge j k with h1 | h1
  · exact h0 j hj h1
  · have : j = k:=by omega
    subst this; exact h
set_option maxHeartbeats 2000000 in
set_option maxRecDepth 100000 in
theorem idxF_some (K : Nat) (cb : Array Value) (P : Raw -> Bool) (L : List Raw) (b o c : Nat) (w : World) (eg : ∀ args w,(callFunc K args).run Tryz.prog w = .ok (.enter K args) w) (hL : L.length <= 1000000) (hs : ∀ r,r ∈ L -> slR r)
    (hc : ∀ j (h : j < L.length),w.cell? ⟨b,o + j * 5,none⟩ = some (.string L[j].1.1) /\ w.cell? ⟨b,o + j * 5 + 1,none⟩ = some (.string L[j].1.2) /\ w.cell? ⟨b,o + j * 5 + 2,none⟩ = some L[j].2.1 /\ w.cell? ⟨b,o + j * 5 + 3,none⟩ = some L[j].2.2.1 /\ w.cell? ⟨b,o + j * 5 + 4,none⟩ = some (.bool L[j].2.2.2))
    (hK : ∀ i (h : i < L.length) W,Below w.heap.size w W -> Calls Tryz.prog K (#[rawV L[i]] ++ cb) W fun e w'=>e = .returned (.bool (P L[i])) /\ Below W.heap.size W w') :
    Calls Tryz.prog 127 #[.slice (some ⟨b,o,none⟩) L.length c,.func (.func K) #[] cb] w fun e w'=>e = .returned (.int .i64 (idxOf P L)) /\ Below w.heap.size w w':=by
  have HK:=hid hK
  have HC:=hid hc
  have HSL:=hid hs
  generalize hr : idxOf P L = r
  have HR:=hid hr
  clear hK hc hr hs
  go_enter Tryz.func127,Tryz.ntmps127
  go_wp2_with fail
  go_loopw [8] (fun i wr=>∃ k : Nat,k <= L.length /\ i = .int .i64 k /\ Hid (∀ j (h : j < L.length),j < k -> P L[j] = false) /\ Hid (Below w.heap.size w wr)) (fun i _=>L.length - (intOf i).toNat)
  case atStart=>exact ⟨0,Nat.zero_le _,rfl,hid (fun j _ hj=>absurd hj (by omega)),hid (Below.refl _ _)⟩
  case round=>
    obtain ⟨k,hk,rfl,HA,HB⟩:=hrel
    by_cases hlt : k < L.length
    · have HP:=hid (HK.out k hlt wr HB.out)
      obtain ⟨y0,y1,y2,y3,y4⟩:=HC.out k hlt
      have x0:=cell_below HB.out y0
      have x1:=cell_below HB.out y1
      have x2:=cell_below HB.out y2
      have x3:=cell_below HB.out y3
      have x4:=cell_below HB.out y4
      obtain ⟨⟨ra,rn,rc,hrv⟩,pa,pn,pc,hpv⟩:=HSL.out L[k] (List.getElem_mem hlt)
      have hkI : (k : Int) < (L.length : Int):=by omega
      have HLT:=hid hlt
      have HF:=hid (fun h=>idx_hit hlt HA.out h)
      have HN:=hid (fun h=>idx_next hlt HA.out h)
      rw [hrv] at x2
      rw [hpv] at x3
      unfold rawV at HP
      rw [hrv,hpv] at HP
      clear y0 y1 y2 y3 y4
      generalize hx : L[k] = x at *
      cases hp : P x
      · rw [hp] at HP
        have HN2:=hid (HN.out hp)
        clear hp hx hrv hpv hlt
        go_wp2_with fail
        refine HP.out.mono ?_
        rintro e w1 ⟨rfl,hb⟩
        have HB1:=hid (HB.out.trans (hb.mono HB.out.size))
        clear hb
        go_wp2_with fail
        go_roundw
        case rel=>exact ⟨k + 1,by have:=HLT.out; omega,by go_num,HN2,HB1⟩
        case measure=>have:=HLT.out; simp [intOf]; omega
      · rw [hp] at HP
        have HF2:=hid (HF.out hp)
        clear hp hx hrv hpv hlt
        go_wp2_with fail
        refine HP.out.mono ?_
        rintro e w1 ⟨rfl,hb⟩
        have HB1:=hid (HB.out.trans (hb.mono HB.out.size))
        clear hb
        go_wp2_with fail
        go_ret
        exact ⟨by rw [<- HR.out,HF2.out]; rfl,HB1.out⟩
    · have HF:=hid (show idxOf P L = -1 by unfold idxOf; rw [fstE_none (idxE_zero (Nat.le_refl _) (fun j hj _=>HA.out j hj (by omega)))])
      go_wp2_with fail
      go_ret
      exact ⟨by rw [<- HR.out,HF.out]; rfl,HB.out⟩
theorem idxF_none (K : Nat) (cb : Array Value) (a : Option Addr) (c : Nat) (w : World) :
    Calls Tryz.prog 127 #[.slice a 0 c,.func (.func K) #[] cb] w fun e w'=>e = .returned (.int .i64 (-1)) /\ Below w.heap.size w w':=by
  go_enter Tryz.func127,Tryz.ntmps127
  go_wp2_with fail
  go_loopw [8] (fun i wr=>i = .int .i64 0 /\ wr = w) (fun i _=>0)
  case atStart=>exact ⟨rfl,rfl⟩
  case round=>
    obtain ⟨rfl,rfl⟩:=hrel
    go_wp2_with fail
    go_ret
    exact ⟨rfl,Below.refl _ _⟩
theorem idxF_any (K : Nat) (cb : Array Value) (P : Raw -> Bool) (L : List Raw) (v : Value) (w : World) (eg : ∀ args w,(callFunc K args).run Tryz.prog w = .ok (.enter K args) w) (hL : L.length <= 1000000) (hv : EsAt w v L)
    (hK : ∀ i (h : i < L.length) W,Below w.heap.size w W -> Calls Tryz.prog K (#[rawV L[i]] ++ cb) W fun e w'=>e = .returned (.bool (P L[i])) /\ Below W.heap.size W w') :
    Calls Tryz.prog 127 #[v,.func (.func K) #[] cb] w fun e w'=>e = .returned (.int .i64 (idxOf P L)) /\ Below w.heap.size w w':=by
  obtain ⟨a,c,rfl,_,hs,h⟩:=hv
  cases L with
  | nil=>exact idxF_none K cb a c w
  | cons x r=>
    obtain ⟨b,o,rfl,h2⟩:=h (by simp)
    exact idxF_some K cb P (x :: r) b o c w eg hL hs h2 hK
def isM (m : Bm) (r : Raw) : Bool:=decide (r.1.1 = m.1 /\ r.1.2 = m.2)
set_option maxHeartbeats 1000000 in
theorem findK_any (m : Bm) (r : Raw) (hs : slR r) (b : Nat) (W : World) (h0 : W.cell? ⟨b,0,none⟩ = some (.string m.1)) (h1 : W.cell? ⟨b,1,none⟩ = some (.string m.2)) :
    Calls Tryz.prog 128 (#[rawV r] ++ #[.pointer (some ⟨b,0,none⟩)]) W fun e w'=>e = .returned (.bool (isM m r)) /\ Below W.heap.size W w':=by
  obtain ⟨⟨p,v⟩,rv,pv,bk⟩:=r
  obtain ⟨⟨ra,rn,rc,rfl⟩,pa,pn,pc,rfl⟩:=hs
  have heq:=fun W=>modEql p v m.1 m.2 W
  have hgd:=modGuard
  show Calls Tryz.prog 128 #[.agg #[.string p,.string v,.slice ra rn rc,.slice pa pn pc,.bool bk],.pointer (some ⟨b,0,none⟩)] W _
  unfold isM
  have HB0:=hid ((Below.refl W.heap.size W).alloc (Nat.le_refl _) (.cells #[.string p,.string v,.slice ra rn rc,.slice pa pn pc,.bool bk] 45))
  have c0:=cell_below HB0.out h0
  have c1:=cell_below HB0.out h1
  have hbb : ¬ b = W.heap.size:=by have:=lt_of_cell h0; simp at this; omega
  have hbb2 : ¬ W.heap.size = b:=fun h=>hbb h.symm
  generalize decide (p = m.1 /\ v = m.2) = z at *
  go_enter Tryz.func128,Tryz.ntmps128
  go_wp2_with fail
  go_ret
  exact ⟨rfl,HB0.out⟩
set_option maxHeartbeats 1000000 in
theorem find_any (L : List Raw) (m : Bm) (v : Value) (w : World) (hL : L.length <= 1000000) (hv : EsAt w v L) :
    Calls Tryz.prog 83 #[v,.agg #[.string m.1,.string m.2]] w fun e w'=>e = .returned (.int .i64 (idxOf (isM m) L)) /\ Below w.heap.size w w':=by
  obtain ⟨a,c,hv1,_,hs,_⟩:=id hv
  have HB0:=hid ((Below.refl w.heap.size w).alloc (Nat.le_refl _) (.cells #[.string m.1,.string m.2] 25))
  have eg : ∀ args w,(callFunc 128 args).run Tryz.prog w = .ok (.enter 128 args) w:=enters_of Tryz.func128 (by kernel_rfl) rfl
  have HF:=hid (idxF_any 128 #[.pointer (some ⟨w.heap.size,0,none⟩)] (isM m) L v (w.alloc (.cells #[.string m.1,.string m.2] 25)) eg hL (hv.below HB0.out) (fun i hi W hW=>
    findK_any m L[i] (hs L[i] (List.getElem_mem hi)) w.heap.size W (cell_below hW (by simp)) (cell_below hW (by simp))))
  subst hv1
  clear hv hs eg
  go_enter Tryz.func83,Tryz.ntmps83
  go_wp2_with fail
  refine HF.out.mono ?_
  rintro e w1 ⟨rfl,hb⟩
  have HB:=hid (HB0.out.trans (hb.mono HB0.out.size))
  clear hb
  go_wp2_with fail
  go_ret
  exact ⟨rfl,HB.out⟩
def okM (m : Bm) : Bool:=decide (m.1.size <= 70) && decide (m.2.size <= 60)
theorem all_take_next {L : List Bm} {k : Nat} (hk : k < L.length) (h : (L.take k).all okM = true) (hm : okM L[k] = true) : (L.take (k + 1)).all okM = true:=by
  rw [List.take_succ_eq_append_getElem hk,List.all_append,h]
  simp [hm]
theorem all_not {L : List Bm} {k : Nat} (hk : k < L.length) (hm : okM L[k] = false) : L.all okM = false:=by
  cases e : L.all okM
  · rfl
  · have:=List.all_eq_true.1 e L[k] (List.getElem_mem hk)
    rw [hm] at this; cases this
set_option maxHeartbeats 1000000 in
theorem sameM_some (L : List Bm) (b o c b' o' c' : Nat) (w : World) (hn : L.length <= 1000000)
    (hc : ∀ j (h : j < L.length),w.cell? ⟨b,o + j * 2,none⟩ = some (.string L[j].1) /\ w.cell? ⟨b,o + j * 2 + 1,none⟩ = some (.string L[j].2))
    (hd : ∀ j (h : j < L.length),w.cell? ⟨b',o' + j * 2,none⟩ = some (.string L[j].1) /\ w.cell? ⟨b',o' + j * 2 + 1,none⟩ = some (.string L[j].2)) :
    Calls Tryz.prog 23 #[.slice (some ⟨b,o,none⟩) L.length c,.slice (some ⟨b',o',none⟩) L.length c'] w fun e w'=>e = .returned (.bool true) /\ Below w.heap.size w w':=by
  have HC:=hid hc
  have HD:=hid hd
  have hgd:=modGuard
  clear hc hd
  go_enter Tryz.func23,Tryz.ntmps23
  go_wp2_with fail
  go_loopw [5] (fun i wr=>∃ k : Nat,k <= L.length /\ i = .int .i64 k /\ Hid (Below w.heap.size w wr)) (fun i _=>L.length - (intOf i).toNat)
  case atStart=>exact ⟨0,Nat.zero_le _,rfl,hid (Below.refl _ _)⟩
  case round=>
    obtain ⟨k,hk,rfl,HB⟩:=hrel
    by_cases hlt : k < L.length
    · have hx:=cell_below HB.out (HC.out k hlt).1
      have hy:=cell_below HB.out (HC.out k hlt).2
      have hx':=cell_below HB.out (HD.out k hlt).1
      have hy':=cell_below HB.out (HD.out k hlt).2
      have hne:=fun W=>modNeq L[k].1 L[k].2 L[k].1 L[k].2 W
      rw [decide_eq_true ⟨rfl,rfl⟩,Bool.not_true] at hne
      have hkI : (k : Int) < (L.length : Int):=by omega
      go_wp2_with fail
      go_quiet (fail)
      go_wp2_with fail
      go_roundw
      case rel=>exact ⟨k + 1,by omega,by go_num,hid (below_drawn_of HB.out _)⟩
      case measure=>simp [intOf]; omega
    · go_wp2_with fail
      go_ret
      exact ⟨rfl,HB.out⟩
theorem sameM_none (a a' : Option Addr) (c c' : Nat) (w : World) : Calls Tryz.prog 23 #[.slice a 0 c,.slice a' 0 c'] w fun e w'=>e = .returned (.bool true) /\ Below w.heap.size w w':=by
  go_enter Tryz.func23,Tryz.ntmps23
  go_wp2_with fail
  go_loopw [5] (fun i wr=>i = .int .i64 0 /\ wr = w) (fun i _=>0)
  case atStart=>exact ⟨rfl,rfl⟩
  case round=>
    obtain ⟨rfl,rfl⟩:=hrel
    go_wp2_with fail
    go_ret
    exact ⟨rfl,Below.refl _ _⟩
theorem sameM_any (L : List Bm) (v u : Value) (w : World) (hn : L.length <= 1000000) (hv : MsAt w v L) (hu : MsAt w u L) : Calls Tryz.prog 23 #[v,u] w fun e w'=>e = .returned (.bool true) /\ Below w.heap.size w w':=by
  obtain ⟨a,c,rfl,_,h⟩:=hv
  obtain ⟨a',c',rfl,_,h'⟩:=hu
  cases L with
  | nil=>exact sameM_none a a' c c' w
  | cons x r=>
    obtain ⟨b,o,rfl,h2⟩:=h (by simp)
    obtain ⟨b',o',rfl,h3⟩:=h' (by simp)
    exact sameM_some (x :: r) b o c b' o' c' w hn h2 h3
theorem reqW_bad {own : ByteArray} {o : Option Bm} {m : Bm} (h : mErr m ≠ 0) : reqW own o m = mErr m:=by unfold reqW; rw [if_neg h]
theorem reqW_own {own : ByteArray} {o : Option Bm} {m : Bm} (h : mErr m = 0) (h2 : m.1 = own) : reqW own o m = 3:=by unfold reqW; rw [if_pos h,if_pos h2]
theorem reqW_none {own : ByteArray} {m : Bm} (h : mErr m = 0) (h2 : ¬ m.1 = own) : reqW own none m = 0:=by unfold reqW; rw [if_pos h,if_neg h2]
theorem reqW_some {own : ByteArray} {p m : Bm} (h : mErr m = 0) (h2 : ¬ m.1 = own) : reqW own (some p) m = if noLess p.1 m.1 then 8 else 0:=by unfold reqW; rw [if_pos h,if_neg h2]
theorem noLess_is (a b : ByteArray) : (!Op.bytesLess a.toList b.toList) = noLess a b:=by unfold noLess; rw [cb_less,ByteArray.toList_eq,ByteArray.toList_eq]
set_option maxHeartbeats 1000000 in
theorem reqK_bad (i : Int) (p v own : ByteArray) (b1 : Nat) (x : Value) (pr : Option Bm) (A : Nat -> Addr) (m : Int) (W : World) (hp : p.size < 999999) (hv : v.size < 999999) (S : Te W A m) (h : mErr (p,v) ≠ 0) :
    Calls Tryz.prog 214 #[.int .i64 i,.agg #[.string p,.string v],.pointer (some ⟨b1,0,none⟩),x] W fun e w'=>e = .returned (errA A (reqW own pr (p,v))) /\ Below W.heap.size W w':=by
  rw [reqW_bad h,errA_if A h]
  have HB0:=hid ((Below.refl W.heap.size W).alloc (Nat.le_refl _) (.cells #[.string p,.string v] 25))
  have HC:=hid (mcheck_any p v A m _ (by omega) (by omega) (S.below HB0.out))
  rw [show modErr p.data.toList v.data.toList = mErr (p,v) from rfl,errA_if A h] at HC
  clear S h
  go_enter Tryz.func214,Tryz.ntmps214
  go_wp2_with fail
  refine HC.out.mono ?_
  rintro e w1 ⟨rfl,hb⟩
  have HB:=hid (HB0.out.trans (hb.mono HB0.out.size))
  clear hb
  go_wp2_with fail
  go_ret
  exact ⟨rfl,HB.out⟩
set_option maxHeartbeats 1000000 in
theorem reqK_own (i : Int) (p v own : ByteArray) (b1 : Nat) (x : Value) (pr : Option Bm) (A : Nat -> Addr) (m : Int) (W : World) (hp : p.size < 999999) (hv : v.size < 999999) (S : Te W A m) (h1 : W.cell? ⟨b1,0,none⟩ = some (.string own)) (h : mErr (p,v) = 0) (ho : p = own) :
    Calls Tryz.prog 214 #[.int .i64 i,.agg #[.string p,.string v],.pointer (some ⟨b1,0,none⟩),x] W fun e w'=>e = .returned (errA A (reqW own pr (p,v))) /\ Below W.heap.size W w':=by
  rw [reqW_own h ho,errA_if A (by omega)]
  have HB0:=hid ((Below.refl W.heap.size W).alloc (Nat.le_refl _) (.cells #[.string p,.string v] 25))
  have HS:=hid (S.below HB0.out)
  have HC:=hid (mcheck_any p v A m _ (by omega) (by omega) HS.out)
  rw [show modErr p.data.toList v.data.toList = mErr (p,v) from rfl,h,errA0] at HC
  have H1:=hid h1
  clear S h h1
  subst ho
  have he:=str_refl p
  go_enter Tryz.func214,Tryz.ntmps214
  go_wp2_with fail
  refine HC.out.mono ?_
  rintro e w1 ⟨rfl,hb⟩
  obtain ⟨⟨r0,r1⟩,rz⟩:=res2 (hb.mono (by simp))
  have HB:=hid (HB0.out.trans (hb.mono HB0.out.size))
  have c1:=cell_below HB.out H1.out
  have g:=(HS.out.below hb).sen.g2
  clear hb
  go_wp2_with fail
  go_ret
  exact ⟨rfl,HB.out⟩
set_option maxHeartbeats 1000000 in
theorem reqK_0 (p v own : ByteArray) (b1 : Nat) (x : Value) (A : Nat -> Addr) (m : Int) (W : World) (hp : p.size < 999999) (hv : v.size < 999999) (S : Te W A m) (h1 : W.cell? ⟨b1,0,none⟩ = some (.string own)) (h : mErr (p,v) = 0) (ho : ¬ p = own) :
    Calls Tryz.prog 214 #[.int .i64 0,.agg #[.string p,.string v],.pointer (some ⟨b1,0,none⟩),x] W fun e w'=>e = .returned (errA A (reqW own none (p,v))) /\ Below W.heap.size W w':=by
  rw [reqW_none h ho,errA0]
  have HB0:=hid ((Below.refl W.heap.size W).alloc (Nat.le_refl _) (.cells #[.string p,.string v] 25))
  have HS:=hid (S.below HB0.out)
  have HC:=hid (mcheck_any p v A m _ (by omega) (by omega) HS.out)
  rw [show modErr p.data.toList v.data.toList = mErr (p,v) from rfl,h,errA0] at HC
  have H1:=hid h1
  clear S h h1
  have he:=str_ne ho
  clear ho
  go_enter Tryz.func214,Tryz.ntmps214
  go_wp2_with fail
  refine HC.out.mono ?_
  rintro e w1 ⟨rfl,hb⟩
  obtain ⟨⟨r0,r1⟩,rz⟩:=res2 (hb.mono (by simp))
  have HB:=hid (HB0.out.trans (hb.mono HB0.out.size))
  have c1:=cell_below HB.out H1.out
  clear hb
  go_wp2_with fail
  go_quiet (fail)
  go_wp2_with fail
  go_ret
  exact ⟨rfl,below_drawn_of HB.out _⟩
set_option maxHeartbeats 1000000 in
theorem reqK_1 (k : Nat) (p v q u own : ByteArray) (b1 b2 b o n c : Nat) (A : Nat -> Addr) (m : Int) (W : World) (hp : p.size < 999999) (hv : v.size < 999999) (S : Te W A m) (h1 : W.cell? ⟨b1,0,none⟩ = some (.string own)) (h : mErr (p,v) = 0) (ho : ¬ p = own)
    (h2 : W.cell? ⟨b2,0,none⟩ = some (.slice (some ⟨b,o,none⟩) n c)) (hk : k < n) (hn : n <= 1000000) (h3 : W.cell? ⟨b,o + k * 2,none⟩ = some (.string q)) :
    Calls Tryz.prog 214 #[.int .i64 ((k : Int) + 1),.agg #[.string p,.string v],.pointer (some ⟨b1,0,none⟩),.pointer (some ⟨b2,0,none⟩)] W fun e w'=>e = .returned (errA A (reqW own (some (q,u)) (p,v))) /\ Below W.heap.size W w':=by
  rw [reqW_some h ho]
  have hge : ∀ X : World,(binOp BinOp.geq 9 (.string q) (.string p)).run Tryz.prog X = .ok (.bool (noLess q p)) X:=fun X=>by rw [<- noLess_is]; rfl
  have HB0:=hid ((Below.refl W.heap.size W).alloc (Nat.le_refl _) (.cells #[.string p,.string v] 25))
  have HS:=hid (S.below HB0.out)
  have HC:=hid (mcheck_any p v A m _ (by omega) (by omega) HS.out)
  rw [show modErr p.data.toList v.data.toList = mErr (p,v) from rfl,h,errA0] at HC
  have H1:=hid h1
  have H2:=hid h2
  have H3:=hid h3
  clear S h h1 h2 h3
  have he:=str_ne ho
  clear ho
  have g1 : (0 : Int) <= (k : Int):=by omega
  have g2 : (k : Int) < (n : Int):=by omega
  have g3 : (k : Int) + 1 - 1 = (k : Int):=by omega
  have g4 : (0 : Int) < (k : Int) + 1:=by omega
  have gw : IntKind.i64.wrap (k : Int) = (k : Int):=by rw [IntKind.wrap_i64]; omega
  cases hz : noLess q p
  · rw [hz] at hge
    rw [if_neg (by simp),errA0]
    go_enter Tryz.func214,Tryz.ntmps214
    go_wp2_with fail
    refine HC.out.mono ?_
    rintro e w1 ⟨rfl,hb⟩
    obtain ⟨⟨r0,r1⟩,rz⟩:=res2 (hb.mono (by simp))
    have HB:=hid (HB0.out.trans (hb.mono HB0.out.size))
    have c1:=cell_below HB.out H1.out
    have c2:=cell_below HB.out H2.out
    have c3:=cell_below HB.out H3.out
    clear hb
    go_wp2_with fail
    go_quiet (fail)
    go_wp2_with fail
    go_ret
    exact ⟨rfl,below_drawn_of HB.out _⟩
  · rw [hz] at hge
    rw [if_pos rfl,errA_if A (by omega)]
    go_enter Tryz.func214,Tryz.ntmps214
    go_wp2_with fail
    refine HC.out.mono ?_
    rintro e w1 ⟨rfl,hb⟩
    obtain ⟨⟨r0,r1⟩,rz⟩:=res2 (hb.mono (by simp))
    have HB:=hid (HB0.out.trans (hb.mono HB0.out.size))
    have c1:=cell_below HB.out H1.out
    have c2:=cell_below HB.out H2.out
    have c3:=cell_below HB.out H3.out
    have gg:=(HS.out.below hb).sen.g7
    clear hb
    go_wp2_with fail
    go_quiet (fail)
    go_wp2_with fail
    go_ret
    exact ⟨rfl,below_drawn_of HB.out _⟩
set_option maxHeartbeats 1000000 in
theorem bare_sen (a : Addr) (A : Nat -> Addr) (m : Int) (w : World) (S : Te w A m) :
    Calls Tryz.prog 135 #[.iface 319 (.pointer (some a))] w fun e w'=>e = .returned (.iface 319 (.pointer (some a))) /\ Below w.heap.size w w':=by
  have HB0:=hid ((Below.refl w.heap.size w).alloc (Nat.le_refl _) (.cells #[.pointer none] 125))
  have HA:=hid (Er.as_miss_b a ⟨w.heap.size,0,none⟩ _ (S.below HB0.out).sen.et)
  clear S
  go_enter Tryz.func135,Tryz.ntmps135
  go_wp2_with fail
  refine HA.out.mono ?_
  rintro e w1 ⟨rfl,hb⟩
  have HB:=hid (HB0.out.trans (hb.mono HB0.out.size))
  clear hb
  go_wp2_with fail
  go_ret
  exact ⟨rfl,HB.out⟩
set_option maxHeartbeats 1000000 in
theorem bare_fault (b : Nat) (x : Addr) (A : Nat -> Addr) (m : Int) (w : World) (S : Te w A m) (h1 : w.cell? ⟨b,1,none⟩ = some (.iface 319 (.pointer (some x)))) :
    Calls Tryz.prog 135 #[.iface 125 (.pointer (some ⟨b,0,none⟩))] w fun e w'=>e = .returned (.iface 319 (.pointer (some x))) /\ Below w.heap.size w w':=by
  have HB0:=hid ((Below.refl w.heap.size w).alloc (Nat.le_refl _) (.cells #[.pointer none] 125))
  have HA:=hid (Er.as_hit_b ⟨b,0,none⟩ ⟨w.heap.size,0,none⟩ (.pointer none) _ w.heap.size (Nat.le_refl _) (S.below HB0.out).sen.et (by simp) (by simp) (by simp))
  have H1:=hid h1
  clear S h1
  go_enter Tryz.func135,Tryz.ntmps135
  go_wp2_with fail
  refine HA.out.mono ?_
  rintro e w1 ⟨rfl,hb,ht⟩
  have HB:=hid (HB0.out.trans hb)
  have c1:=cell_below HB.out H1.out
  clear hb
  go_wp2_with fail
  go_ret
  exact ⟨rfl,HB.out⟩
theorem bare_any (x : Value) (c : Nat) (o : Option Nat) (A : Nat -> Addr) (m : Int) (w : World) (S : Te w A m) (h : ErrAt w A x c o) (hc : c ≠ 0) :
    Calls Tryz.prog 135 #[x] w fun e w'=>e = .returned (errA A c) /\ Below w.heap.size w w':=by
  cases o with
  | none=>
    have h : x = errA A c:=h
    rw [h,errA_if A hc]
    exact bare_sen _ A m w S
  | some i=>
    obtain ⟨_,b,rfl,_,h3⟩:=h
    rw [errA_if A hc] at h3 ⊢
    exact bare_fault b _ A m w S h3
theorem as_nil (p : Addr) (w : World) : Calls Tryz.prog 111 #[.nilIface,.iface 127 (.pointer (some p))] w fun e w'=>e = .returned (.bool false) /\ Below w.heap.size w w':=by
  go_enter Tryz.func111,Tryz.ntmps111
  go_wp2_with fail
  go_ret
  exact ⟨rfl,Below.refl _ _⟩
set_option maxHeartbeats 1000000 in
theorem bare_nil (w : World) : Calls Tryz.prog 135 #[.nilIface] w fun e w'=>e = .returned .nilIface /\ Below w.heap.size w w':=by
  have HA:=hid (as_nil ⟨w.heap.size,0,none⟩ (w.alloc (.cells #[.pointer none] 125)))
  have HB0:=hid ((Below.refl w.heap.size w).alloc (Nat.le_refl _) (.cells #[.pointer none] 125))
  go_enter Tryz.func135,Tryz.ntmps135
  go_wp2_with fail
  refine HA.out.mono ?_
  rintro e w1 ⟨rfl,hb⟩
  have HB:=hid (HB0.out.trans (hb.mono HB0.out.size))
  clear hb
  go_wp2_with fail
  go_ret
  exact ⟨rfl,HB.out⟩
theorem bare_all (x : Value) (c : Nat) (o : Option Nat) (A : Nat -> Addr) (m : Int) (w : World) (S : Te w A m) (h : ErrAt w A x c o) :
    Calls Tryz.prog 135 #[x] w fun e w'=>e = .returned (errA A c) /\ Below w.heap.size w w':=by
  by_cases hc : c = 0
  · subst hc
    cases o with
    | none=>
      have h : x = errA A 0:=h
      rw [h]
      exact bare_nil w
    | some i=>exact absurd rfl h.1
  · exact bare_any x c o A m w S h hc
end Ve
end Go.Proofs.YtlcffhadobhfkaaGreatDoor
