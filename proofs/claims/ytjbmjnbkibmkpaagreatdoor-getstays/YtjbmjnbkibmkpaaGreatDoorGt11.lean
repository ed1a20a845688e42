
import Derived.Test.YtjbmjnbkibmkpaaGreatDoorGt10
import Derived.Maps.OwnSet
import Derived.DeepKeys4
import Derived.MapViews
import Derived.StringKeys
import Derived.Shelf.SlIter.Nil
import Derived.Test.YtjbmjnbkibmkpaaGreatDoorProg
import Derived.Test.YtjbmjnbkibmkpaaGreatDoorGt7
import Derived.Sort.KeysCollected
import Derived.Test.YtjbmjnbkibmkpaaGreatDoorGt3
import Derived.Lib.Replace
import Derived.Test.YtjbmjnbkibmkpaaGreatDoorGt2
import Derived.Shelf.Strings.Builder1
import Derived.Shelf.Strings.Builder2
import Derived.Shelf.Strings.OnBuilder
import Derived.Shelf.Strings.Trim
import Derived.Shelf.Small.Utf8
import Derived.Shelf.Small.Bits
import Derived.Shelf.Small.Strs
import Derived.Shelf.Small.Wraps
import Derived.Shelf.Strings.BuilderF
import Derived.Shelf.Strings.BuilderK
import Derived.Shelf.Strconv.Itoa0
import Derived.Shelf.Strconv.Itoa1
import Derived.Shelf.LaysM
import Derived.Shelf.Strconv.Itoa2
import Derived.Shelf.Strconv.Itoa3
import Derived.Shelf.Strings.Search1
import Derived.Shelf.Strings.Search2
import Derived.Shelf.Strings.Search3
import Derived.Shelf.Strings.Cut
import Derived.Shelf.Strings.Count
import Derived.Shelf.Strings.Shaped
import Derived.Shelf.Sort.Plain
import Derived.Shelf.Strings.Prefix
import Derived.Shelf.Strings.Split
import Derived.Shelf.Strings.Replace
import Derived.Shelf.Strings.Runes
import Derived.Shelf.Strings.AsciiSet
import Derived.Shelf.Unicode.DecodeSlow
import Derived.Shelf.Unicode.DecodeAny
import Derived.Shelf.Slices.Equal
import Derived.Shelf.Slices.CompactS
import Derived.Ground.Names2Prog
import Derived.Shelf.Slices.SearchI
import Derived.Shelf.Slices.Cells
import Derived.Shelf.Slices.In.SortNone
import Derived.Shelf.Slices.Empties2
import Derived.Laws.EntriesVeiled
set_option maxHeartbeats 8000000
namespace Go.Proofs.YtjbmjnbkibmkpaaGreatDoor
open Go.RowKit Go.Maps
namespace Ve
theorem strKeyed : Keyed Tryz.prog 9:=string_keyed Tryz.underlying9
def kS (t : ByteArray) : Lit:=.string t.data.toList
theorem kS_inj {a b : ByteArray} (h : kS a = kS b) : a = b:=by
 unfold kS at h
 injection h with h
 cases a; cases b
 simp only at h
 rw [Array.toList_inj] at h
 rw [h]
theorem kS_key (t : ByteArray) : WideAt.IsKeyLit (kS t):=trivial
theorem keyOf_S (t : ByteArray) (h : t.size <= maxLen) : keyOf Tryz.prog 9 (.string t) = some (kS t):=WideMaps.keyOf_string_mk Tryz.underlying9 h
def rP : Value -> Option (DataW (Option Nat) × List MemPlace)
 | .pointer none=>some (.held none,[])
 | .pointer (some ⟨g,0,none⟩)=>some (.held (some g),[])
 | _=>none
theorem rP_pin (g : Nat) : rP (.pointer (some ⟨g,0,none⟩)) = some (.held (some g),[]):=rfl
theorem rP_nil : rP (.pointer none) = some (.held none,[]):=rfl
theorem rP_inv {v : Value} {g : Nat} {ps : List MemPlace} (h : rP v = some (.held (some g),ps)) : v = .pointer (some ⟨g,0,none⟩):=by
 unfold rP at h
 split at h
 ·simp at h
 ·simp at h; rw [h.1]
 ·cases h
theorem rP_inv0 {v : Value} {ps : List MemPlace} (h : rP v = some (.held none,ps)) : v = .pointer none:=by
 unfold rP at h
 split at h
 ·rfl
 ·simp at h
 ·cases h
def datP (Z : List (ByteArray × Nat)) : DataW (Option Nat):=Z.foldl (fun D x=>D.put (kS x.1) (.held (some x.2))) (.map [])
theorem datP_app (Z : List (ByteArray × Nat)) (t : ByteArray) (g : Nat) : datP (Z ++ [(t,g)]) = (datP Z).put (kS t) (.held (some g)):=by simp [datP,List.foldl_append]
theorem datP_map (Z : List (ByteArray × Nat)) : IsMap (datP Z):=by
 unfold datP
 suffices ∀ (Z : List (ByteArray × Nat)) (D : DataW (Option Nat)),IsMap D -> IsMap (Z.foldl (fun D x=>D.put (kS x.1) (.held (some x.2))) D) from this Z _ isMap_empty
 intro Z
 induction Z with
 | nil=>exact fun D h=>h
 | cons x r ih=>exact fun D h=>ih _ (h.put _ _)
theorem datP_far {t : ByteArray} {z : DataW (Option Nat)} : ∀ (Z : List (ByteArray × Nat)) (D : DataW (Option Nat)),(∀ x,x ∈ Z -> x.1 ≠ t) -> (Z.foldl (fun D x=>D.put (kS x.1) (.held (some x.2))) D).atKey (kS t) z = D.atKey (kS t) z
 | [],_,_=>rfl
 | x :: r,D,h=>by
  rw [List.foldl_cons,datP_far r _ (fun y hy=>h y (List.mem_cons_of_mem _ hy))]
  exact atKey_put_other (fun e=>h x (by simp) (kS_inj e).symm) _ _
theorem datP_none {Z : List (ByteArray × Nat)} {t : ByteArray} (h : ∀ x,x ∈ Z -> x.1 ≠ t) (z : DataW (Option Nat)) : (datP Z).atKey (kS t) z = z:=datP_far Z _ h
theorem datP_at {z : DataW (Option Nat)} : ∀ (Z : List (ByteArray × Nat)) (D : DataW (Option Nat)),IsMap D -> (Z.map (fun x=>x.1)).Nodup -> ∀ k (hk : k < Z.length),(Z.foldl (fun D x=>D.put (kS x.1) (.held (some x.2))) D).atKey (kS Z[k].1) z = .held (some Z[k].2)
 | [],_,_,_,k,hk=>by simp at hk
 | x :: r,D,hD,hn,k,hk=>by
  have hn2 : (x.1 :: r.map (fun x=>x.1)).Nodup:=hn
  obtain ⟨n1,n2⟩:=List.nodup_cons.1 hn2
  rw [List.foldl_cons]
  cases k with
  | succ k=>
   simp only [List.getElem_cons_succ]
   exact datP_at r _ (hD.put _ _) n2 k (by simpa using hk)
  | zero=>
   simp only [List.getElem_cons_zero]
   rw [datP_far r _ (fun y hy e=>n1 (List.mem_map.2 ⟨y,hy,e⟩))]
   exact atKey_put_same hD (kS_key _) _ _
theorem datP_has {t : ByteArray} : ∀ (Z : List (ByteArray × Nat)) (D : DataW (Option Nat)),IsMap D -> has (Z.foldl (fun D x=>D.put (kS x.1) (.held (some x.2))) D) (kS t) = (has D (kS t) || Z.any (fun x=>decide (x.1 = t)))
 | [],D,_=>by simp
 | x :: r,D,hD=>by
  rw [List.foldl_cons,datP_has r _ (hD.put _ _),List.any_cons]
  by_cases e : x.1 = t
  ·subst e
   rw [has_put_same hD (kS_key _)]
   simp
  ·rw [has_put_other (fun he=>e (kS_inj he).symm),decide_eq_false e,Bool.false_or]
structure PinsAt (w0 W : World) (b : Nat) (K : Pk) (B : List Nat) : Prop where
 bl : Below w0.heap.size w0 W
 lb : w0.heap.size <= b
 ln : B.length = K.length
 lo : ∀ g,g ∈ B -> w0.heap.size <= g
 nb : B.Nodup
 nd : (pkT K).Nodup
 sz : ∀ t,t ∈ pkT K -> t.size <= maxLen
 mp : W.ownsMap Tryz.prog 9 rP b K.length (datP ((pkT K).zip B))
 pn : ∀ j (h : j < K.length) (h' : j < B.length),PnAt W B[j] K[j].2
theorem pkT_len (K : Pk) : (pkT K).length = K.length:=by simp [pkT]
theorem pkT_at {K : Pk} {k : Nat} (hk : k < K.length) : (pkT K)[k]'(by rw [pkT_len]; exact hk) = K[k].1:=by simp [pkT]
theorem zip_keys {K : Pk} {B : List Nat} (h : B.length = K.length) : ((pkT K).zip B).map (fun x=>x.1) = pkT K:=by
 rw [show (fun x : ByteArray × Nat=>x.1) = Prod.fst from rfl]
 exact List.map_fst_zip (by rw [pkT_len]; omega)
theorem ownsMap_heap {w w' : World} {b n : Nat} {D : DataW (Option Nat)} (h : w.ownsMap Tryz.prog 9 rP b n D) (hb : w'.heap[b]? = w.heap[b]?) : w'.ownsMap Tryz.prog 9 rP b n D:=by
 obtain ⟨es,clock,h1,F,hs,hD⟩:=h
 exact ⟨es,clock,hb.trans h1,F,hs,hD⟩
theorem PinsAt.below {w0 W W' : World} {b : Nat} {K : Pk} {B : List Nat} (h : PinsAt w0 W b K B) (hb : Below W.heap.size W W') : PinsAt w0 W' b K B:=
 ⟨h.bl.trans (hb.mono h.bl.size),h.lb,h.ln,h.lo,h.nb,h.nd,h.sz,ownsMap_heap h.mp (hb.block b h.mp.lt),fun j h1 h2=>(h.pn j h1 h2).below hb⟩
theorem PnAt.lt {W : World} {g : Nat} {x : Bm} (h : PnAt W g x) : g < W.heap.size:=(Array.getElem?_eq_some_iff.1 h).1
theorem PinsAt.ne {w0 W : World} {b : Nat} {K : Pk} {B : List Nat} (h : PinsAt w0 W b K B) {g : Nat} {x : Bm} (hg : PnAt W g x) : b ≠ g:=fun e=>by
 obtain ⟨es,clock,h1,_⟩:=h.mp
 subst e
 have:=h1.symm.trans hg
 simp at this
theorem PinsAt.void (w : World) : PinsAt w (w.alloc (.map #[] 0)) w.heap.size [] []:=
 ⟨(Below.refl w.heap.size w).alloc (Nat.le_refl _) _,Nat.le_refl _,rfl,fun _ h=>absurd h (by simp),List.nodup_nil,List.nodup_nil,fun _ h=>absurd h (by simp [pkT]),World.ownsMap_made w Tryz.prog 9 rP,fun j h=>absurd h (by simp)⟩
theorem PinsAt.look {w0 W : World} {b : Nat} {K : Pk} {B : List Nat} (h : PinsAt w0 W b K B) {k : Nat} (hk : k < K.length) :
  ∃ g,PnAt W g K[k].2 /\ w0.heap.size <= g /\ B[k]? = some g /\ (Instr.lookup 88 (.map (some b)) (.string K[k].1) false).run Tryz.prog W = .ok (.pointer (some ⟨g,0,Option.none⟩)) W:=by
 have hkB : k < B.length:=by rw [h.ln]; exact hk
 have hz : (zeroValue 143).run Tryz.prog W = .ok (.pointer Option.none) W:=Tryz.zeroValue143 W
 have hs:=h.sz K[k].1 (List.mem_map.2 ⟨K[k],List.getElem_mem hk,rfl⟩)
 obtain ⟨v,ps,hrun,hv⟩:=World.ownsMap.lookup h.mp strKeyed Tryz.underlying88 hz rP_nil (keyOf_S K[k].1 hs)
 have hZ : k < ((pkT K).zip B).length:=by simp [pkT_len]; omega
 have hat:=datP_at (z:=.held Option.none) ((pkT K).zip B) (.map []) isMap_empty (by rw [zip_keys h.ln]; exact h.nd) k hZ
 rw [List.getElem_zip] at hat
 simp only [pkT_at hk] at hat
 rw [show (datP ((pkT K).zip B)).atKey (kS K[k].1) (.held Option.none) = .held (some B[k]) from hat] at hv
 obtain rfl:=rP_inv hv
 exact ⟨B[k],h.pn k hk hkB,h.lo _ (List.getElem_mem hkB),List.getElem?_eq_getElem hkB,hrun⟩
theorem PinsAt.look_not {w0 W : World} {b : Nat} {K : Pk} {B : List Nat} (h : PinsAt w0 W b K B) {t : ByteArray} (ht : t.size <= maxLen) (hn : t ∉ pkT K) :
  (Instr.lookup 88 (.map (some b)) (.string t) false).run Tryz.prog W = .ok (.pointer Option.none) W:=by
 have hz : (zeroValue 143).run Tryz.prog W = .ok (.pointer Option.none) W:=Tryz.zeroValue143 W
 obtain ⟨v,ps,hrun,hv⟩:=World.ownsMap.lookup h.mp strKeyed Tryz.underlying88 hz rP_nil (keyOf_S t ht)
 rw [datP_none (fun x hx e=>hn (by rw [<- e,<- zip_keys h.ln]; exact List.mem_map.2 ⟨x,hx,rfl⟩))] at hv
 obtain rfl:=rP_inv0 hv
 exact hrun
theorem PinsAt.set {w0 W : World} {b : Nat} {K : Pk} {B : List Nat} (h : PinsAt w0 W b K B) {k : Nat} (hk : k < K.length) {g : Nat} (hg : B[k]? = some g) (t : ByteArray) (wl : Bool) :
  PinsAt w0 (W.setCell ⟨g,pnO wl,none⟩ (.string t)) b (pkSet K K[k].1 (pnS K[k].2 t wl)) B:=by
 have hkB : k < B.length:=by rw [h.ln]; exact hk
 have hgk : B[k] = g:=by rw [List.getElem?_eq_getElem hkB] at hg; injection hg
 subst hgk
 have hp:=h.pn k hk hkB
 refine ⟨h.bl.setCell (p:=⟨B[k],pnO wl,none⟩) (h.lo _ (List.getElem_mem hkB)) _,h.lb,by rw [pkSet_len]; exact h.ln,h.lo,h.nb,by rw [pkT_set]; exact h.nd,by rw [pkT_set]; exact h.sz,?_,fun j h1 h2=>?_⟩
 ·rw [pkT_set,pkSet_len]
  exact ownsMap_heap h.mp (Below.heap_setCell _ _ _ _ (h.ne hp))
 ·have h1' : j < K.length:=by rw [pkSet_len] at h1; exact h1
  rw [pkSet_at h.nd hk h1']
  by_cases e : j = k
  ·subst e
   rw [if_pos rfl]
   exact hp.put t wl
  ·rw [if_neg e]
   have hne : B[j] ≠ B[k]:=fun e2=>by
    have hn:=List.pairwise_iff_getElem.1 h.nb
    rcases Nat.lt_or_ge j k with h3 | h3
    ·exact hn j k h2 hkB h3 e2
    ·exact hn k j hkB h2 (by omega) e2.symm
   unfold PnAt
   rw [Below.heap_setCell _ _ _ _ hne]
   exact h.pn j h1' h2
theorem PinsAt.more {w0 W W2 : World} {b : Nat} {K : Pk} {B : List Nat} (h : PinsAt w0 W b K B) {t : ByteArray} (ht : t.size <= maxLen) (hn : t ∉ pkT K)
  (hown : W2.ownsMap Tryz.prog 9 rP b (K.length + 1) ((datP ((pkT K).zip B)).put (kS t) (.held (some W.heap.size))))
  (hgr : (W.alloc (.cells #[.string bE,.string bE] 145)).grownBy W2 (some b)) : PinsAt w0 W2 b (K ++ [(t,(bE,bE))]) (B ++ [W.heap.size]):=by
 have hs:=h.bl.size
 have hbl:=h.mp.lt
 have hB1 : Below w0.heap.size w0 (W.alloc (.cells #[.string bE,.string bE] 145)):=h.bl.alloc hs _
 have hblk : ∀ g,g < W.heap.size -> g ≠ b -> W2.heap[g]? = W.heap[g]?:=fun g hg hne=>by
  rw [hgr.block g (by simp; omega) (by simp [hne]),((Below.refl W.heap.size W).alloc (Nat.le_refl _) _).block g hg]
 have hT : pkT (K ++ [(t,(bE,bE))]) = pkT K ++ [t]:=by simp [pkT]
 refine ⟨hB1.grown hgr (by simp; omega) (fun j hj=>by cases hj; exact h.lb),h.lb,by simp [h.ln],fun g hg=>?_,?_,?_,fun s hs'=>?_,?_,fun j h1 h2=>?_⟩
 ·rcases List.mem_append.1 hg with hg | hg
  ·exact h.lo g hg
  ·simp at hg; omega
 ·rw [List.nodup_append]
  refine ⟨h.nb,by simp,fun a ha c hc=>?_⟩
  simp at hc
  obtain ⟨j,hj,rfl⟩:=List.getElem_of_mem ha
  have:=(h.pn j (by rw [<- h.ln]; exact hj) hj).lt
  omega
 ·rw [hT,List.nodup_append]
  refine ⟨h.nd,by simp,fun a ha c hc=>?_⟩
  simp at hc
  subst hc
  exact fun e=>hn (by rw [<- e]; exact ha)
 ·rw [hT] at hs'
  rcases List.mem_append.1 hs' with hs' | hs'
  ·exact h.sz s hs'
  ·simp at hs'; rw [hs']; exact ht
 ·rw [hT,List.zip_append (by rw [pkT_len]; exact h.ln.symm),List.length_append]
  show W2.ownsMap Tryz.prog 9 rP b (K.length + 1) (datP ((pkT K).zip B ++ [(t,W.heap.size)]))
  rw [datP_app]
  exact hown
 ·by_cases hj : j < K.length
  ·have hjB : j < B.length:=by rw [h.ln]; exact hj
   have hp:=h.pn j hj hjB
   rw [List.getElem_append_left hj,List.getElem_append_left hjB]
   unfold PnAt
   rw [hblk _ hp.lt (fun e=>h.ne hp e.symm)]
   exact hp
  ·have hjk : j = K.length:=by simp at h1; omega
   subst hjk
   have e1 : (K ++ [(t,(bE,bE))])[K.length] = (t,(bE,bE)):=by simp
   have e2 : (B ++ [W.heap.size])[K.length] = W.heap.size:=by simp [<- h.ln]
   rw [e1,e2]
   unfold PnAt
   rw [hgr.block W.heap.size (by simp) (by simp; omega)]
   exact World.alloc_heap_new W _
end Ve
end Go.Proofs.YtjbmjnbkibmkpaaGreatDoor


namespace Go.Proofs
open Go.Shelf
def Tryz.keysP_ren : Go.Shelf.Ren:=⟨fun | 7=>105 | 10=>147 | n=>n,fun | 23=>88 | 26=>9 | 3=>143 | 28=>149 | 0=>0 | 27=>148 | 33=>43 | 4=>4 | n=>n,fun | n=>n⟩
theorem Tryz.keysP : Go.Proofs.SlLaysZ.n7 Tryz.prog Tryz.keysP_ren:={
 mixed:=by kernel_rfl
 f7:=⟨Tryz.f105.name,by decide,Tryz.func105.trans (congrArg some (by kernel_rfl))⟩
 f10:=⟨Tryz.f147.name,by decide,Tryz.func147.trans (congrArg some (by kernel_rfl))⟩
 t0:=Tryz.underlying0
 a0:=Tryz.isAgg0
 z0:=Tryz.sizeOf0
 v0:=Tryz.zeroValue0
 t4:=Tryz.underlying4
 a4:=Tryz.isAgg4
 z4:=Tryz.sizeOf4
 v4:=Tryz.zeroValue4
 t23:=Tryz.underlying88
 a23:=Tryz.isAgg88
 z23:=Tryz.sizeOf88
 v23:=Tryz.zeroValue88
 t26:=Tryz.underlying9
 a26:=Tryz.isAgg9
 z26:=Tryz.sizeOf9
 v26:=Tryz.zeroValue9
 t27:=Tryz.underlying148
 a27:=Tryz.isAgg148
 z27:=Tryz.sizeOf148
 v27:=Tryz.zeroValue148
 t28:=Tryz.underlying149
 a28:=Tryz.isAgg149
 z28:=Tryz.sizeOf149
 v28:=Tryz.zeroValue149
 t33:=Tryz.underlying43
 a33:=Tryz.isAgg43
 z33:=Tryz.sizeOf43
 v33:=Tryz.zeroValue43 }
end Go.Proofs


namespace Go.Proofs
open Go.Shelf
def Tryz.sortedP_ren : Go.Shelf.Ren:=⟨fun | 6=>104 | 8=>145 | 9=>146 | 11=>200 | 13=>129 | 12=>201 | 23=>182 | 24=>183 | 14=>249 | 15=>250 | 16=>251 | 17=>252 | 18=>253 | 19=>254 | 20=>255 | 21=>256 | 22=>257 | 25=>283 | 26=>230 | 27=>231 | 28=>284 | 29=>285 | 30=>286 | 31=>297 | n=>n,fun | 26=>9 | 28=>149 | 24=>26 | 0=>0 | 3=>3 | 37=>167 | 48=>221 | 50=>223 | 4=>4 | 40=>214 | 39=>213 | 45=>218 | 5=>5 | 9=>9 | 51=>249 | 55=>253 | 57=>277 | 58=>278 | 33=>43 | n=>n,fun | n=>n⟩
theorem Tryz.sortedP : Go.Proofs.SlLaysZ.n6 Tryz.prog Tryz.sortedP_ren:={
 mixed:=by kernel_rfl
 f6:=⟨Tryz.f104.name,by decide,Tryz.func104.trans (congrArg some (by kernel_rfl))⟩
 f8:=⟨Tryz.f145.name,by decide,Tryz.func145.trans (congrArg some (by kernel_rfl))⟩
 f11:=⟨Tryz.f200.name,by decide,Tryz.func200.trans (congrArg some (by kernel_rfl))⟩
 t0:=Tryz.underlying0
 a0:=Tryz.isAgg0
 z0:=Tryz.sizeOf0
 v0:=Tryz.zeroValue0
 t24:=Tryz.underlying26
 a24:=Tryz.isAgg26
 z24:=Tryz.sizeOf26
 v24:=Tryz.zeroValue26
 t26:=Tryz.underlying9
 a26:=Tryz.isAgg9
 z26:=Tryz.sizeOf9
 v26:=Tryz.zeroValue9
 t28:=Tryz.underlying149
 a28:=Tryz.isAgg149
 z28:=Tryz.sizeOf149
 v28:=Tryz.zeroValue149
 i26:=by kernel_rfl }
end Go.Proofs


namespace Go.Proofs.YtjbmjnbkibmkpaaGreatDoor
open Go.RowKit Go.Maps Go.Sort Go.Shelf
namespace Ve
theorem sortsP (m : Nat) : AnyZ.SortsIn Tryz.prog Tryz.sortedP_ren Fence.wide m:=
 ⟨fun blk off cap ss W hH hblk hsz=>callsIn_wide.2 (Tryz.slices_Sort_string blk off cap ss W hH hblk hsz),
  fun p cap W=>callsIn_wide.2 (Tryz.slices_Sort_string_none p cap W)⟩
theorem keysP_any (mb : Option Nat) (W : World) : Calls Tryz.prog 105 #[.map mb] W fun e w'=>e = .returned (.func (.func 147) #[] #[.pointer (some ⟨W.heap.size,0,none⟩)]) /\ w' = W.alloc (.cells #[.map mb] 88):=
 (callsIn_wide (n:=5)).1 (AnyZ.keys_in Tryz.keysP Fence.wide 5 trivial rfl mb W)
theorem keys_perm {w0 W : World} {b : Nat} {K : Pk} {B : List Nat} (h : PinsAt w0 W b K B) : (bl (pkT K)).Perm (strKeys (datP ((pkT K).zip B))):=by
 obtain ⟨es,hes,hp,hk⟩:=h.mp.entries strKeyed
 obtain ⟨es',hes',hk'⟩:=h.mp.keysOf
 have hE : es = es':=by
  have:=hes.symm.trans hes'
  injection this
 subst hE
 rw [hes]
 refine perm_strKeys hp (fun p hp'=>?_) ?_ (fun x=>?_)
 ·obtain ⟨key,hkey⟩:=hk' p hp'
  obtain ⟨x,_,hx,_⟩:=Maps.keyOf_str Tryz.underlying9 hkey
  exact ⟨x,hx⟩
 ·unfold bl
  rw [List.nodup_iff_pairwise_ne,List.pairwise_map]
  refine h.nd.imp fun {a b} hab e=>hab ?_
  exact kS_inj (by unfold kS; rw [e])
 ·rw [<- hes]
  have e1:=datP_has (t:=⟨x.toArray⟩) ((pkT K).zip B) (.map []) isMap_empty
  have e2 : kS ⟨x.toArray⟩ = .string x:=by simp [kS]
  rw [e2] at e1
  show _ ↔ has (datP ((pkT K).zip B)) (.string x) = true
  unfold datP
  rw [e1]
  simp only [has_eq,List.any_nil,Bool.false_or,List.any_eq_true,decide_eq_true_eq]
  unfold bl
  rw [List.mem_map]
  constructor
  ·rintro ⟨t,ht,rfl⟩
   rw [<- zip_keys h.ln] at ht
   obtain ⟨y,hy,rfl⟩:=List.mem_map.1 ht
   exact ⟨y,hy,by cases y; rename_i a _; cases a; simp⟩
  ·rintro ⟨y,hy,h2⟩
   refine ⟨y.1,?_,by rw [h2]⟩
   rw [<- zip_keys h.ln]
   exact List.mem_map.2 ⟨y,hy,rfl⟩
theorem sortedP_any (w0 W : World) (b : Nat) (K : Pk) (B : List Nat) (hK : K.length <= 1000) (h : PinsAt w0 W b K B) :
  Calls Tryz.prog 104 #[.func (.func 147) #[] #[.pointer (some ⟨W.heap.size,0,none⟩)]] (W.alloc (.cells #[.map (some b)] 88)) fun e w'=>∃ v,e = .returned v /\
   w'.ownsRow W.heap.size 9 1 v (tx (srtB (bl (pkT K)))).length ((tx (srtB (bl (pkT K)))).map Value.string) /\ Below W.heap.size W w':=by
 have hbl:=h.mp.lt
 have hsz : Maps.size (datP ((pkT K).zip B)) = K.length:=by
  have hp:=(keys_perm h).length_eq
  rw [bl_len,pkT_len] at hp
  obtain ⟨es,hes⟩:=datP_map ((pkT K).zip B)
  rw [hes] at hp ⊢
  simp only [strKeys,List.length_map] at hp
  exact hp.symm
 have hseq : SeqGives Fence.wide 4 Tryz.prog 147 #[.pointer (some ⟨W.heap.size,0,none⟩)] encStr (fun ss=>ss.Perm (strKeys (datP ((pkT K).zip B)))) (Maps.size (datP ((pkT K).zip B))) (W.alloc (.cells #[.map (some b)] 88)):=
  AnyZ.keys_gives (ρ:=Tryz.keysP_ren) { Tryz.keysP with } Fence.wide _ trivial rfl (by omega) W.heap.size b K.length (datP ((pkT K).zip B)) _ (by simp) (by simp) (by
   obtain ⟨es,clock,hb,Ft,hs,hD⟩:=h.mp
   exact ⟨es,clock,(Below.heap_alloc _ _ b hbl).trans hb,Ft,hs,hD⟩)
 have cS:=AnyZ.sorted_in Tryz.sortedP Fence.wide 7 trivial trivial trivial trivial rfl (by omega) (sortsP _) (enters_of Tryz.func146 (by kernel_rfl) rfl) 147 #[.pointer (some ⟨W.heap.size,0,none⟩)] trivial (enters_of Tryz.func147 (by kernel_rfl) rfl) _ _ (by rw [hsz]; unfold maxLen; omega) (by rw [hsz]; omega) _ hseq
 change CallsIn _ _ Tryz.prog 104 _ _ _ at cS
 refine ((callsIn_wide (n:=7)).1 cS).mono ?_
 rintro e w' ⟨v,ss,rfl,hS,hrow,hnil,hb⟩
 have hss : ss.mergeSort (fun x y=>decide (x <= y)) = srtB (bl (pkT K)):=mergeSort_of_perm (hS.trans (keys_perm h).symm)
 have hln : ss.length = (srtB (bl (pkT K))).length:=by rw [srtB_len,hS.length_eq,(keys_perm h).length_eq]
 refine ⟨v,rfl,own_txB ?_,((Below.refl _ W).alloc (Nat.le_refl _) _).trans (hb.mono (by simp))⟩
 rw [hss,hln] at hrow
 exact own_baseN hrow (by simp)
end Ve
end Go.Proofs.YtjbmjnbkibmkpaaGreatDoor


namespace Go.Proofs.YtjbmjnbkibmkpaaGreatDoor
open Go.RowKit
namespace Ve
theorem tok_wild : ∀ l : List UInt8,(tok l).any Option.isNone = true ↔ ∃ i,i < l.length /\ dots.isPrefixOf (l.drop i) = true
 | []=>by rw [tok_nil]; simp
 | c :: r=>by
  cases h : dots.isPrefixOf (c :: r)
  ·rw [tok_one h]
   simp only [List.any_cons,Option.isNone_some,Bool.false_or]
   rw [tok_wild r]
   constructor
   ·rintro ⟨i,hi,hp⟩; exact ⟨i + 1,by simp only [List.length_cons]; omega,hp⟩
   ·rintro ⟨i,hi,hp⟩
    cases i with
    | zero=>rw [List.drop_zero,h] at hp; cases hp
    | succ i=>exact ⟨i,by simp only [List.length_cons] at hi; omega,hp⟩
  ·rw [tok_any h]
   simp only [List.any_cons,Option.isNone_none,Bool.true_or,true_iff]
   exact ⟨0,by simp,h⟩
theorem tok_tame : ∀ l : List UInt8,(tok l).any Option.isNone = false -> tok l = l.map some
 | [],_=>rfl
 | c :: r,h=>by
  cases hp : dots.isPrefixOf (c :: r)
  ·rw [tok_one hp] at h ⊢
   simp only [List.any_cons,Option.isNone_some,Bool.false_or] at h
   rw [tok_tame r h]; rfl
  ·rw [tok_any hp] at h
   simp at h
theorem mtB_some : ∀ (l s : List UInt8),mtB (l.map some) s = true ↔ s = l
 | [],s=>by rw [List.map_nil,mtB_nil,List.isEmpty_iff]
 | c :: l,s=>by
  rw [List.map_cons,mtB_one]
  constructor
  ·rintro ⟨x,r,rfl,rfl,h⟩
   rw [(mtB_some l r).1 h]
  ·rintro rfl
   exact ⟨c,l,rfl,rfl,(mtB_some l l).2 rfl⟩
end Ve
end Go.Proofs.YtjbmjnbkibmkpaaGreatDoor


namespace Go.Proofs.YtjbmjnbkibmkpaaGreatDoor
open Go.RowKit
namespace Ve
theorem tok_miss {l : List UInt8} (h : Lib.index l dots = -1) : tok l = l.map some:=by
 refine tok_tame l ?_
 cases hb : (tok l).any Option.isNone
 ·rfl
 ·obtain ⟨i,hi,hp⟩:=(tok_wild l).1 hb
  rcases Lib.index_spec l dots with ⟨_,h2⟩ | ⟨j,h1,_⟩
  ·have:=h2 i (by omega)
   unfold Lib.occAt at this
   rw [hp] at this; cases this
  ·omega
theorem tok_len : ∀ l : List UInt8,(tok l).length <= l.length
 | []=>Nat.le_refl _
 | c :: r=>by
  cases h : dots.isPrefixOf (c :: r)
  ·rw [tok_one h]
   have:=tok_len r
   simp only [List.length_cons]; omega
  ·rw [tok_any h]
   have:=tok_len (r.drop 2)
   rw [List.length_drop] at this
   show (tok (r.drop 2)).length + 1 <= r.length + 1
   omega
termination_by l=>l.length
theorem tok_hit : ∀ {i : Nat} {l : List UInt8},Lib.index l dots = i -> tok l = (l.take i).map some ++ none :: tok (l.drop (i + 3))
 | 0,l,h=>by
  rcases Lib.index_spec l dots with ⟨h1,_⟩ | ⟨j,h1,_,h2,_⟩
  ·omega
  ·have : j = 0:=by omega
   subst this
   unfold Lib.occAt at h2
   rw [List.drop_zero] at h2
   rw [tok_any h2]; rfl
 | i + 1,[],h=>by cases h
 | i + 1,c :: r,h=>by
  unfold Lib.index at h
  split at h
  ·omega
  ·next hp=>
   have hp' : dots.isPrefixOf (c :: r) = false:=Bool.eq_false_iff.2 hp
   split at h
   ·omega
   ·have hi : Lib.index r dots = i:=by omega
    rw [tok_one hp',tok_hit hi]; rfl
def tokP : List (List UInt8) -> List (Option UInt8)
 | []=>[]
 | [a]=>a.map some
 | a :: b :: r=>a.map some ++ none :: tokP (b :: r)
theorem tokP_cons (a : List UInt8) {r : List (List UInt8)} (h : r ≠ []) : tokP (a :: r) = a.map some ++ none :: tokP r:=by
 cases r with
 | nil=>exact absurd rfl h
 | cons b r=>rfl
theorem splitK_ne (k : Nat) (l : List UInt8) : Lib.splitK dots 0 k l ≠ []:=by
 cases k with
 | zero=>unfold Lib.splitK; simp
 | succ k=>unfold Lib.splitK; split <;> simp
theorem dots_ne : dots ≠ []:=by unfold dots; simp
theorem tok_split : ∀ (k : Nat) (l : List UInt8),Lib.count l dots = k -> tok l = tokP (Lib.splitK dots 0 k l)
 | 0,l,h=>by
  rcases Lib.index_spec l dots with ⟨h1,_⟩ | ⟨j,h1,_⟩
  ·rw [tok_miss h1]; rfl
  ·rw [Lib.count_hit dots_ne h1] at h; omega
 | k + 1,l,h=>by
  rcases Lib.index_spec l dots with ⟨h1,_⟩ | ⟨j,h1,_⟩
  ·rw [Lib.count_miss h1] at h; omega
  ·rw [Lib.count_hit dots_ne h1] at h
   have hm : ¬ (Lib.index l dots == -1) = true:=fun e=>by have:=beq_iff_eq.1 e; omega
   have e : (Lib.index l dots).toNat = j:=by omega
   unfold Lib.splitK
   rw [if_neg hm,e,tokP_cons _ (splitK_ne _ _),Nat.add_zero,tok_hit h1]
   congr 2
   exact tok_split k _ (by show Lib.count (l.drop (j + dots.length)) dots = k; omega)
theorem mtB_pre : ∀ (a : List UInt8) (T : List (Option UInt8)) (s : List UInt8),mtB (a.map some ++ T) s = true ↔ a.isPrefixOf s = true /\ mtB T (s.drop a.length) = true
 | [],T,s=>by simp
 | c :: a,T,s=>by
  rw [List.map_cons,List.cons_append,mtB_one]
  constructor
  ·rintro ⟨x,r,rfl,rfl,h⟩
   obtain ⟨h1,h2⟩:=(mtB_pre a T r).1 h
   exact ⟨by simp [List.isPrefixOf]; simpa using h1,h2⟩
  ·rintro ⟨h1,h2⟩
   cases s with
   | nil=>simp [List.isPrefixOf] at h1
   | cons x r=>
    simp only [List.isPrefixOf,Bool.and_eq_true,beq_iff_eq] at h1
    exact ⟨x,r,rfl,h1.1.symm,(mtB_pre a T r).2 ⟨h1.2,h2⟩⟩
def grd : List (List UInt8) -> List UInt8 -> Bool
 | [],_=>false
 | [a],s=>Lib.hasSuffix s a
 | a :: b :: r,s=>(Lib.cut s a).2.2 && grd (b :: r) (Lib.cut s a).2.1
theorem grd_cons (a : List UInt8) {r : List (List UInt8)} (h : r ≠ []) (s : List UInt8) : grd (a :: r) s = ((Lib.cut s a).2.2 && grd r (Lib.cut s a).2.1):=by
 cases r with
 | nil=>exact absurd rfl h
 | cons b r=>rfl
theorem mtB_less {T : List (Option UInt8)} {s : List UInt8} {d : Nat} (h : mtB (none :: T) (s.drop d) = true) : mtB (none :: T) s = true:=by
 obtain ⟨j,hj,h2⟩:=mtB_any.1 h
 rw [List.length_drop] at hj
 rw [List.drop_drop] at h2
 rcases Nat.lt_or_ge s.length (d + j) with h3 | h3
 ·refine mtB_any.2 ⟨s.length,Nat.le_refl _,?_⟩
  rw [List.drop_length]
  rwa [List.drop_eq_nil_of_le (by omega)] at h2
 ·exact mtB_any.2 ⟨d + j,h3,h2⟩
theorem grd_is : ∀ (P : List (List UInt8)),P ≠ [] -> ∀ s,mtB (none :: tokP P) s = grd P s
 | [],h,_=>absurd rfl h
 | [a],_,s=>by
  rw [Bool.eq_iff_iff,mtB_any]
  show _ ↔ a.isSuffixOf s = true
  rw [List.isSuffixOf_iff_suffix]
  constructor
  ·rintro ⟨j,_,h⟩
   have:=(mtB_some a _).1 h
   rw [<- this]; exact List.drop_suffix _ _
  ·rintro ⟨t,rfl⟩
   exact ⟨t.length,by rw [List.length_append]; omega,by rw [List.drop_left]; exact (mtB_some a a).2 rfl⟩
 | a :: b :: r,_,s=>by
  have ih:=grd_is (b :: r) (by simp)
  rw [grd_cons a (by simp),<- ih]
  show mtB (none :: (a.map some ++ none :: tokP (b :: r))) s = _
  generalize tokP (b :: r) = T
  rcases Lib.index_spec s a with ⟨h1,h2⟩ | ⟨i,h1,h2,h3,h4⟩
  ·have e : Lib.cut s a = (s,[],false):=by unfold Lib.cut; rw [h1,if_neg (by omega)]
   rw [e,Bool.false_and]
   cases hb : mtB (none :: (a.map some ++ none :: T)) s
   ·rfl
   ·obtain ⟨j,hj,h5⟩:=mtB_any.1 hb
    have h6:=((mtB_pre _ _ _).1 h5).1
    have h7:=h2 j hj
    unfold Lib.occAt at h7
    rw [h6] at h7; cases h7
  ·have e : Lib.cut s a = (s.take i,s.drop (i + a.length),true):=by unfold Lib.cut; rw [h1,if_pos (by omega)]; simp
   rw [e,Bool.true_and,Bool.eq_iff_iff]
   constructor
   ·intro hb
    obtain ⟨j,hj,h5⟩:=mtB_any.1 hb
    obtain ⟨h6,h7⟩:=(mtB_pre _ _ _).1 h5
    rcases Nat.lt_or_ge j i with h8 | h8
    ·have h9:=h4 j h8
     unfold Lib.occAt at h9
     rw [h6] at h9; cases h9
    ·rw [List.drop_drop] at h7
     refine mtB_less (d:=j - i) ?_
     show mtB (none :: T) ((s.drop (i + a.length)).drop (j - i)) = true
     rw [List.drop_drop,show i + a.length + (j - i) = j + a.length by omega]; exact h7
   ·intro hb
    refine mtB_any.2 ⟨i,h2,(mtB_pre _ _ _).2 ⟨h3,?_⟩⟩
    rw [List.drop_drop]; exact hb
def pcs (l : List UInt8) : List (List UInt8):=Lib.splitK dots 0 (Lib.count l dots) l
theorem pcs_ne (l : List UInt8) : pcs l ≠ []:=splitK_ne _ _
theorem pcs_tok (l : List UInt8) : tok l = tokP (pcs l):=tok_split _ l rfl
theorem mat_one {p s : List UInt8} (h : (pcs p).length = 1) : mtB (tok p) s = decide (s = p):=by
 have hc : Lib.count p dots = 0:=by
  rcases Nat.eq_zero_or_pos (Lib.count p dots) with h0 | h0
  ·exact h0
  ·unfold pcs at h
   obtain ⟨k,hk⟩ : ∃ k,Lib.count p dots = k + 1:=⟨_,(Nat.succ_pred_eq_of_pos h0).symm⟩
   rw [hk] at h
   rcases Lib.index_spec p dots with ⟨h1,_⟩ | ⟨j,h1,_⟩
   ·rw [Lib.count_miss h1] at hk; omega
   ·have hm : ¬ (Lib.index p dots == -1) = true:=fun e=>by have:=beq_iff_eq.1 e; omega
    unfold Lib.splitK at h
    rw [if_neg hm,List.length_cons] at h
    have:=List.length_pos_iff.2 (splitK_ne k (p.drop ((Lib.index p dots).toNat + dots.length)))
    omega
 have e : tok p = p.map some:=by rw [pcs_tok]; unfold pcs; rw [hc]; rfl
 rw [e,Bool.eq_iff_iff,mtB_some,decide_eq_true_iff]
theorem mat_more {p s : List UInt8} {a : List UInt8} {r : List (List UInt8)} (h : pcs p = a :: r) (hr : r ≠ []) : mtB (tok p) s = (Lib.hasPrefix s a && grd r (Lib.trimPrefix s a)):=by
 rw [pcs_tok,h,tokP_cons a hr,<- grd_is r hr,Bool.eq_iff_iff,mtB_pre,Bool.and_eq_true]
 unfold Lib.trimPrefix Lib.hasPrefix
 constructor
 ·rintro ⟨h1,h2⟩; exact ⟨h1,by rw [if_pos h1]; exact h2⟩
 ·rintro ⟨h1,h2⟩; exact ⟨h1,by rw [if_pos h1] at h2; exact h2⟩
theorem wild_is (p : ByteArray) : wildB p = Lib.contains p.data.toList dots:=by
 unfold wildB Lib.contains
 generalize p.data.toList = l
 rw [Bool.eq_iff_iff,decide_eq_true_iff]
 rcases Lib.index_spec l dots with ⟨h1,_⟩ | ⟨j,h1,_⟩
 ·rw [tok_miss h1,h1]
  constructor
  ·intro h
   obtain ⟨x,hx,hn⟩:=List.any_eq_true.1 h
   obtain ⟨y,_,rfl⟩:=List.mem_map.1 hx
   cases hn
  ·intro h; omega
 ·rw [tok_hit h1,h1]
  constructor
  ·intro _; omega
  ·intro _; simp
theorem xs_split : ∀ (k : Nat) (l : List UInt8),Lib.count l dots = k -> xsOf l = Lib.replaceK dots [120] k l
 | 0,l,h=>by
  rcases Lib.index_spec l dots with ⟨h1,_⟩ | ⟨j,h1,_⟩
  ·unfold xsOf
   rw [tok_miss h1,List.map_map,show ((fun t : Option UInt8=>t.getD 120) ∘ some) = id from rfl,List.map_id]; rfl
  ·rw [Lib.count_hit dots_ne h1] at h; omega
 | k + 1,l,h=>by
  rcases Lib.index_spec l dots with ⟨h1,_⟩ | ⟨j,h1,_⟩
  ·rw [Lib.count_miss h1] at h; omega
  ·rw [Lib.count_hit dots_ne h1] at h
   have ih:=xs_split k (l.drop (j + dots.length)) (by omega)
   rw [Lib.replaceK_hit _ _ _ _ j h1,<- ih]
   unfold xsOf
   rw [tok_hit h1,List.map_append,List.map_cons]
   have e : (l.take j).map ((fun t=>t.getD 120) ∘ some) = l.take j:=by
    rw [show ((fun t : Option UInt8=>t.getD 120) ∘ some) = id from rfl,List.map_id]
   rw [List.map_map,e,List.append_assoc]; rfl
theorem xs_is (l : List UInt8) : xsOf l = Lib.replaceAll l dots [120]:=by
 rw [xs_split _ l rfl]
 unfold Lib.replaceAll Lib.replace Lib.replaceNum
 rw [if_neg (show ¬ (dots == [120]) = true by decide),if_pos (Or.inl (by decide))]
theorem xs_len (l : List UInt8) : (xsOf l).length <= l.length:=by
 unfold xsOf
 rw [List.length_map]
 exact tok_len l
end Ve
end Go.Proofs.YtjbmjnbkibmkpaaGreatDoor


namespace Go.Proofs.YtjbmjnbkibmkpaaGreatDoor
open Go.RowKit
namespace Ve
def WildC (T : World -> Prop) : Prop:=∀ (p : ByteArray) (w : World),p.size <= 100 -> T w -> Calls Tryz.prog 15 #[.string p] w fun e w'=>e = .returned (.bool (wildB p)) /\ Below w.heap.size w w'
end Ve
end Go.Proofs.YtjbmjnbkibmkpaaGreatDoor


namespace Go.Proofs.YtjbmjnbkibmkpaaGreatDoor
open Go.RowKit
namespace Ve
theorem ix_lt {i n : Nat} (h : i < n) : (i : Int) < (n : Int):=Int.ofNat_lt.2 h
theorem ix_nlt {i n : Nat} (h : ¬ i < n) : ¬ (i : Int) < (n : Int):=fun e=>h (Int.ofNat_lt.1 e)
theorem ix_pos (i : Nat) : (0 : Int) <= (i : Int):=Int.natCast_nonneg _
theorem ix_w1 {i n : Nat} (h : i < n) (hn : n <= 1000000) : wrap64 ((i : Int) + 1) = (i : Int) + 1:=IntWalk.wrap64_in _ (by omega)
theorem nx_idx {t n : Nat} (h : t < n) (h2 : n <= 1000000) : Value.int .i64 (wrap64 ((t : Int) + 1)) = .int .i64 ((t + 1 : Nat) : Int):=by
 rw [IntWalk.wrap64_in _ (by omega)]; rfl
theorem nx_meas {t n : Nat} (h : t < n) (h2 : n <= 1000000) : n - (intOf (Value.int .i64 (wrap64 ((t : Int) + 1)))).toNat < n - (intOf (Value.int .i64 (t : Int))).toNat:=by
 rw [IntWalk.wrap64_in _ (by omega)]
 show n - ((t : Int) + 1).toNat < n - ((t : Int)).toNat
 omega
theorem nr_idx (t : Nat) : Value.int .i64 ((t : Int) + 1) = .int .i64 ((t + 1 : Nat) : Int):=rfl
theorem nr_meas {t n : Nat} (h : t < n) : n - (intOf (Value.int .i64 ((t : Int) + 1))).toNat < n - (intOf (Value.int .i64 (t : Int))).toNat:=by
 show n - ((t : Int) + 1).toNat < n - ((t : Int)).toNat
 omega
end Ve
end Go.Proofs.YtjbmjnbkibmkpaaGreatDoor


namespace Go.Proofs
open Go.Shelf
def Tryz.lays104_ren : Go.Shelf.Ren:=⟨fun | 104=>238 | 211=>277 | 207=>293 | n=>n,fun | 9=>9 | 4=>4 | 24=>99 | 3=>3 | n=>n,fun | n=>n⟩
theorem Tryz.lays104 : Go.Proofs.Lays.n104 Tryz.prog Tryz.lays104_ren:={
 mixed:=by kernel_rfl
 f104:=Tryz.func238.trans (congrArg some (by kernel_rfl))
 f207:=Tryz.func293.trans (congrArg some (by kernel_rfl))
 f211:=Tryz.func277.trans (congrArg some (by kernel_rfl))
 t3:=Tryz.underlying3
 a3:=Tryz.isAgg3
 z3:=Tryz.sizeOf3
 v3:=Tryz.zeroValue3
 t4:=Tryz.underlying4
 a4:=Tryz.isAgg4
 z4:=Tryz.sizeOf4
 v4:=Tryz.zeroValue4
 t9:=Tryz.underlying9
 a9:=Tryz.isAgg9
 z9:=Tryz.sizeOf9
 v9:=Tryz.zeroValue9
 t24:=Tryz.underlying99
 a24:=Tryz.isAgg99
 z24:=Tryz.sizeOf99
 v24:=Tryz.zeroValue99 }
open Go.RowKit in
theorem Tryz.strings_CutSuffix (s p : ByteArray) (w : World) (hs : s.size <= 9223372036854775807) :
  Calls Tryz.prog 238 #[.string s,.string p] w fun e w'=>e = .returned (.tuple #[.string ⟨(Lib.trimSuffix s.data.toList p.data.toList).toArray⟩,.bool (Lib.hasSuffix s.data.toList p.data.toList)]) /\ w' = w:=Any.strings_CutSuffix Tryz.lays104 s p w hs
def Tryz.lays100_ren : Go.Shelf.Ren:=⟨fun | 100=>276 | 207=>293 | n=>n,fun | 9=>9 | 4=>4 | 3=>3 | n=>n,fun | n=>n⟩
theorem Tryz.lays100 : Go.Proofs.Lays.n100 Tryz.prog Tryz.lays100_ren:={
 mixed:=by kernel_rfl
 f100:=Tryz.func276.trans (congrArg some (by kernel_rfl))
 f207:=Tryz.func293.trans (congrArg some (by kernel_rfl))
 t3:=Tryz.underlying3
 a3:=Tryz.isAgg3
 z3:=Tryz.sizeOf3
 v3:=Tryz.zeroValue3
 t4:=Tryz.underlying4
 a4:=Tryz.isAgg4
 z4:=Tryz.sizeOf4
 v4:=Tryz.zeroValue4
 t9:=Tryz.underlying9
 a9:=Tryz.isAgg9
 z9:=Tryz.sizeOf9
 v9:=Tryz.zeroValue9 }
open Go.RowKit Go.Lib in
theorem Tryz.strings_HasSuffix (s p : ByteArray) (w : World) (hs : s.size <= 9223372036854775807) :
  Calls Tryz.prog 276 #[.string s,.string p] w fun e w'=>e = .returned (.bool (Lib.hasSuffix s.data.toList p.data.toList)) /\ w' = w:=Any.strings_HasSuffix Tryz.lays100 s p w hs
def Tryz.lays155_ren : Go.Shelf.Ren:=⟨fun | 155=>63 | 154=>112 | 138=>30 | 165=>157 | 143=>60 | 166=>158 | 197=>159 | 169=>160 | 195=>58 | 218=>59 | 240=>209 | 241=>210 | 219=>111 | 260=>211 | 276=>264 | 277=>265 | 217=>153 | 225=>154 | 224=>155 | 267=>156 | 266=>207 | 314=>208 | n=>n,fun | 9=>9 | 3=>3 | 4=>4 | 72=>201 | 0=>0 | 76=>157 | 105=>203 | 21=>21 | 5=>5 | 70=>198 | 20=>20 | 37=>199 | 75=>33 | 127=>237 | 164=>124 | 46=>167 | 119=>270 | 139=>273 | 138=>272 | 146=>235 | 51=>221 | 80=>151 | n=>n,fun | 1=>8 | 3=>10 | 4=>11 | n=>n⟩
theorem Tryz.lays155 : Go.Proofs.Lays.n155 Tryz.prog Tryz.lays155_ren:={
 mixed:=by kernel_rfl
 f138:=Tryz.func30.trans (congrArg some (by kernel_rfl))
 f143:=Tryz.func60.trans (congrArg some (by kernel_rfl))
 f154:=Tryz.func112.trans (congrArg some (by kernel_rfl))
 f155:=Tryz.func63.trans (congrArg some (by kernel_rfl))
 f165:=Tryz.func157.trans (congrArg some (by kernel_rfl))
 f166:=Tryz.func158.trans (congrArg some (by kernel_rfl))
 f169:=Tryz.func160.trans (congrArg some (by kernel_rfl))
 f195:=Tryz.func58.trans (congrArg some (by kernel_rfl))
 f197:=Tryz.func159.trans (congrArg some (by kernel_rfl))
 f217:=Tryz.func153.trans (congrArg some (by kernel_rfl))
 f218:=Tryz.func59.trans (congrArg some (by kernel_rfl))
 f219:=Tryz.func111.trans (congrArg some (by kernel_rfl))
 f224:=Tryz.func155.trans (congrArg some (by kernel_rfl))
 f225:=Tryz.func154.trans (congrArg some (by kernel_rfl))
 f240:=Tryz.func209.trans (congrArg some (by kernel_rfl))
 f241:=Tryz.func210.trans (congrArg some (by kernel_rfl))
 f260:=Tryz.func211.trans (congrArg some (by kernel_rfl))
 f266:=Tryz.func207.trans (congrArg some (by kernel_rfl))
 f267:=Tryz.func156.trans (congrArg some (by kernel_rfl))
 f276:=Tryz.func264.trans (congrArg some (by kernel_rfl))
 f277:=Tryz.func265.trans (congrArg some (by kernel_rfl))
 f314:=Tryz.func208.trans (congrArg some (by kernel_rfl))
 t0:=Tryz.underlying0
 a0:=Tryz.isAgg0
 z0:=Tryz.sizeOf0
 v0:=Tryz.zeroValue0
 t3:=Tryz.underlying3
 a3:=Tryz.isAgg3
 z3:=Tryz.sizeOf3
 v3:=Tryz.zeroValue3
 t4:=Tryz.underlying4
 a4:=Tryz.isAgg4
 z4:=Tryz.sizeOf4
 v4:=Tryz.zeroValue4
 t5:=Tryz.underlying5
 a5:=Tryz.isAgg5
 z5:=Tryz.sizeOf5
 v5:=Tryz.zeroValue5
 t9:=Tryz.underlying9
 a9:=Tryz.isAgg9
 z9:=Tryz.sizeOf9
 v9:=Tryz.zeroValue9
 t20:=Tryz.underlying20
 a20:=Tryz.isAgg20
 z20:=Tryz.sizeOf20
 v20:=Tryz.zeroValue20
 t21:=Tryz.underlying21
 a21:=Tryz.isAgg21
 z21:=Tryz.sizeOf21
 v21:=Tryz.zeroValue21
 t37:=Tryz.underlying199
 a37:=Tryz.isAgg199
 z37:=Tryz.sizeOf199
 v37:=Tryz.zeroValue199
 t46:=Tryz.underlying167
 a46:=Tryz.isAgg167
 z46:=Tryz.sizeOf167
 v46:=Tryz.zeroValue167
 t51:=Tryz.underlying221
 a51:=Tryz.isAgg221
 z51:=Tryz.sizeOf221
 v51:=Tryz.zeroValue221
 t70:=Tryz.underlying198
 a70:=Tryz.isAgg198
 z70:=Tryz.sizeOf198
 v70:=Tryz.zeroValue198
 t72:=Tryz.underlying201
 a72:=Tryz.isAgg201
 z72:=Tryz.sizeOf201
 v72:=Tryz.zeroValue201
 t75:=Tryz.underlying33
 a75:=Tryz.isAgg33
 z75:=Tryz.sizeOf33
 v75:=Tryz.zeroValue33
 t76:=Tryz.underlying157
 a76:=Tryz.isAgg157
 z76:=Tryz.sizeOf157
 v76:=Tryz.zeroValue157
 t105:=Tryz.underlying203
 a105:=Tryz.isAgg203
 z105:=Tryz.sizeOf203
 v105:=Tryz.zeroValue203
 t119:=Tryz.underlying270
 a119:=Tryz.isAgg270
 z119:=Tryz.sizeOf270
 t127:=Tryz.underlying237
 a127:=Tryz.isAgg237
 z127:=Tryz.sizeOf237
 v127:=Tryz.zeroValue237
 t138:=Tryz.underlying272
 a138:=Tryz.isAgg272
 z138:=Tryz.sizeOf272
 v138:=Tryz.zeroValue272
 t139:=Tryz.underlying273
 a139:=Tryz.isAgg273
 z139:=Tryz.sizeOf273
 v139:=Tryz.zeroValue273
 t146:=Tryz.underlying235
 a146:=Tryz.isAgg235
 z146:=Tryz.sizeOf235
 v146:=Tryz.zeroValue235
 t164:=Tryz.underlying124
 a164:=Tryz.isAgg124
 z164:=Tryz.sizeOf124
 v164:=Tryz.zeroValue124
 g1:=by kernel_rfl
 g3:=by kernel_rfl
 g4:=by kernel_rfl }
theorem Tryz.Builder_Extra_155 : Builder.Extra Tryz.prog Tryz.lays155_ren:={
 sizeBuilder:=by kernel_rfl
 liesBuilder:=by kernel_rfl
 t5:=Tryz.underlying5
 a5:=Tryz.isAgg5
 z5:=Tryz.sizeOf5
 v5:=Tryz.zeroValue5
 infoByte:=by kernel_rfl
 cellsByte:=by kernel_rfl
 sizeByte:=by kernel_rfl
 neB5:=by decide }
open Go.RowKit Go.Lib in
theorem Tryz.strings_ReplaceAll (s old new : ByteArray) (m : Int) (w : World) (hs : s.size < 4294967281) (hm : w.cell? ⟨8,0,none⟩ = some (.int .i64 m)) (h1 : 1 <= old.size) (hlen : s.size + Lib.countB s old * new.size <= 140737488355328) :
  Calls Tryz.prog 63 #[.string s,.string old,.string new] w fun e w'=>
   e = .returned (.string ⟨(Lib.replaceAll s.data.toList old.data.toList new.data.toList).toArray⟩) /\ Below w.heap.size w w':=Any.strings_ReplaceAll Tryz.lays155 Tryz.Builder_Extra_155 s old new m w hs hm h1 hlen
end Go.Proofs


namespace Go.Proofs.YtjbmjnbkibmkpaaGreatDoor
open Go.RowKit
namespace Ve
def TstC (w : World) (f : Value) (P : ByteArray -> Bool) : Prop:=∃ K cb,f = .func (.func K) #[] cb /\ (∀ args w,(callFunc K args).run Tryz.prog w = .ok (.enter K args) w) /\
 ∀ W s,Below w.heap.size w W -> s.size <= 100 -> Calls Tryz.prog K (#[.string s] ++ cb) W fun e W'=>e = .returned (.bool (P s)) /\ Below W.heap.size W W'
theorem TstC.below {w w' : World} {f : Value} {P : ByteArray -> Bool} (h : TstC w f P) (hb : Below w.heap.size w w') : TstC w' f P:=by
 obtain ⟨K,cb,e,en,hK⟩:=h
 exact ⟨K,cb,e,en,fun W s hW hs=>hK W s (hb.trans (hW.mono hb.size)) hs⟩
theorem enPc1 : ∀ args w,(callFunc 274 args).run Tryz.prog w = .ok (.enter 274 args) w:=enters_of Tryz.func274 (by kernel_rfl) rfl
theorem enPc2 : ∀ args w,(callFunc 275 args).run Tryz.prog w = .ok (.enter 275 args) w:=enters_of Tryz.func275 (by kernel_rfl) rfl
theorem enMr1 : ∀ args w,(callFunc 239 args).run Tryz.prog w = .ok (.enter 239 args) w:=enters_of Tryz.func239 (by kernel_rfl) rfl
theorem bl_split3 (s : ByteArray) : bl (Lib.splitB ⟨#[46,46,46]⟩ 0 (Lib.countB s ⟨#[46,46,46]⟩) s) = pcs s.data.toList:=by
 unfold bl
 rw [Lib.splitB_data]; rfl
theorem split3_any (s : ByteArray) (m : Int) (w : World) (hs : s.size < 4294967281) (hm : w.cell? ⟨8,0,none⟩ = some (.int .i64 m)) :
  Calls Tryz.prog 69 #[.string s,.string ⟨#[46,46,46]⟩] w fun e w'=>∃ X : List ByteArray,e = .returned (.slice (some ⟨w.heap.size,0,none⟩) X.length X.length) /\ bl X = pcs s.data.toList /\
   (∀ j (h : j < X.length),w'.cell? ⟨w.heap.size,j,none⟩ = some (.string X[j])) /\ Below w.heap.size w w':=by
 refine (Tryz.strings_Split s ⟨#[46,46,46]⟩ m w hs hm (by decide)).mono fun e w' ⟨h1,h2⟩=>?_
 have hlen:=Lib.splitB_all ⟨#[46,46,46]⟩ (by decide) 0 _ s rfl
 refine ⟨Lib.splitB ⟨#[46,46,46]⟩ 0 (Lib.countB s ⟨#[46,46,46]⟩) s,?_,bl_split3 s,?_,?_⟩
 ·rw [h1,hlen]
 ·intro j hj
  rw [h2,World.cell?_alloc_at _ _ _ _ rfl]
  simp [hj]
 ·rw [h2]; exact (Below.refl _ _).alloc (Nat.le_refl _) _
theorem pcK1_any (s p : ByteArray) (b : Nat) (W : World) (h0 : W.cell? ⟨b,0,none⟩ = some (.string p)) :
  Calls Tryz.prog 274 (#[.string s] ++ #[.pointer (some ⟨b,0,none⟩)]) W fun e W'=>e = .returned (.bool (s.toList == p.toList)) /\ Below W.heap.size W W':=by
 show Calls Tryz.prog 274 #[.string s,.pointer (some ⟨b,0,none⟩)] W _
 go_enter Tryz.func274,Tryz.ntmps274
 go_wp2_with fail
 go_ret
 exact ⟨rfl,Below.refl _ _⟩
theorem mrK_any (s : ByteArray) (P Q : ByteArray -> Bool) (f g : Value) (b c : Nat) (W : World) (hs : s.size <= 100) (hf : TstC W f P) (hg : TstC W g Q) (h0 : W.cell? ⟨b,0,none⟩ = some f) (h1 : W.cell? ⟨c,0,none⟩ = some g) :
  Calls Tryz.prog 239 (#[.string s] ++ #[.pointer (some ⟨b,0,none⟩),.pointer (some ⟨c,0,none⟩)]) W fun e W'=>e = .returned (.bool (P s || Q s)) /\ Below W.heap.size W W':=by
 show Calls Tryz.prog 239 #[.string s,.pointer (some ⟨b,0,none⟩),.pointer (some ⟨c,0,none⟩)] W _
 obtain ⟨K,cb,rfl,en,hK⟩:=hf
 obtain ⟨K2,cb2,rfl,en2,hK2⟩:=hg
 have HK:=hid (hK W s (Below.refl _ _) hs)
 have HK2:=hid (fun W' (hb : Below W.heap.size W W')=>hK2 W' s hb hs)
 have HC2:=hid (fun W' (hb : Below W.heap.size W W')=>cell_below hb h1)
 clear hK hK2
 generalize Q s = y at *
 cases hz : P s
 ·rw [hz] at HK
  clear hz
  go_enter Tryz.func239,Tryz.ntmps239
  go_wp2_with fail
  refine HK.out.mono ?_
  rintro e w1 ⟨rfl,hb⟩
  have HB:=hid hb
  have x1:=HC2.out _ hb
  clear hb
  go_wp2_with fail
  refine (HK2.out _ HB.out).mono ?_
  rintro e w2 ⟨rfl,hb⟩
  have HB2:=hid (HB.out.trans (hb.mono HB.out.size))
  clear hb
  go_wp2_with fail
  go_ret
  exact ⟨rfl,HB2.out⟩
 ·rw [hz] at HK
  clear hz
  go_enter Tryz.func239,Tryz.ntmps239
  go_wp2_with fail
  refine HK.out.mono ?_
  rintro e w1 ⟨rfl,hb⟩
  have HB:=hid hb
  clear hb
  go_wp2_with fail
  go_ret
  exact ⟨rfl,HB.out⟩
theorem wild_m (m : Int) : WildC (fun w=>w.cell? ⟨8,0,none⟩ = some (.int .i64 m)):=fun p w hp hm=>by
 have HC:=hid (Tryz.strings_Contains p ⟨#[46,46,46]⟩ m w (by omega) hm)
 have HW:=hid (wild_is p)
 clear hm
 go_enter Tryz.func15,Tryz.ntmps15
 go_wp2_with fail
 refine HC.out.mono ?_
 rintro e w1 ⟨rfl,rfl⟩
 go_wp2_with fail
 go_ret
 exact ⟨by rw [HW.out]; rfl,Below.refl _ _⟩
end Ve
end Go.Proofs.YtjbmjnbkibmkpaaGreatDoor


namespace Go.Proofs.YtjbmjnbkibmkpaaGreatDoor
open Go.RowKit
namespace Ve
theorem cut_le (s a : List UInt8) : (Lib.cut s a).2.1.length <= s.length:=by
 unfold Lib.cut
 split
 ·show (s.drop _).length <= _
  rw [List.length_drop]; omega
 ·exact Nat.zero_le _
theorem blP_drop {X : List ByteArray} {k : Nat} (h : k < X.length) : bl (X.drop k) = X[k].data.toList :: bl (X.drop (k + 1)):=by
 rw [List.drop_eq_getElem_cons h]; rfl
set_option maxRecDepth 100000 in
theorem pcK2_any (s : ByteArray) (X : List ByteArray) (g b c : Nat) (m : Int) (W : World) (z : Bool) (hs : s.size <= 100) (hX : 2 <= X.length) (hX9 : X.length <= 1000) (hm : W.cell? ⟨8,0,none⟩ = some (.int .i64 m))
  (h0 : W.cell? ⟨b,0,none⟩ = some (.slice (some ⟨g,0,none⟩) X.length X.length)) (h1 : W.cell? ⟨c,0,none⟩ = some (.int .i64 ((X.length - 1 : Nat) : Int))) (hc : ∀ j (h : j < X.length),W.cell? ⟨g,j,none⟩ = some (.string X[j]))
  (hz : z = (Lib.hasPrefix s.data.toList (X[0]'(by omega)).data.toList && grd (bl (X.drop 1)) (Lib.trimPrefix s.data.toList (X[0]'(by omega)).data.toList))) :
  Calls Tryz.prog 275 (#[.string s] ++ #[.pointer (some ⟨b,0,none⟩),.pointer (some ⟨c,0,none⟩)]) W fun e W'=>e = .returned (.bool z) /\ Below W.heap.size W W':=by
 show Calls Tryz.prog 275 #[.string s,.pointer (some ⟨b,0,none⟩),.pointer (some ⟨c,0,none⟩)] W _
 have x0:=hc 0 (by omega)
 have HC:=hid hc
 have HP:=hid (Tryz.strings_CutPrefix s (X[0]'(by omega)) W)
 have HZ:=hid hz
 have l0 : (0 : Int) < (X.length : Int):=by omega
 have l1 : (1 : Int) <= ((X.length - 1 : Nat) : Int):=by omega
 have l2 : ((X.length - 1 : Nat) : Int) <= (X.length : Int):=by omega
 clear hc hz
 go_enter Tryz.func275,Tryz.ntmps275
 go_wp2_with fail
 refine HP.out.mono ?_
 rintro e w1 ⟨rfl,rfl⟩
 have HR0:=hid (show (⟨(Lib.trimPrefix s.data.toList (X[0]'(by omega)).data.toList).toArray⟩ : ByteArray).size <= 100 by
  have:=Lib.trimPrefix_le s.data.toList (X[0]'(by omega)).data.toList
  rw [len_eq] at this
  show (Lib.trimPrefix s.data.toList (X[0]'(by omega)).data.toList).toArray.size <= 100
  rw [List.size_toArray]; omega)
 have HZ0:=hid (show z = (Lib.hasPrefix s.data.toList (X[0]'(by omega)).data.toList && grd (bl (X.drop (0 + 1))) (⟨(Lib.trimPrefix s.data.toList (X[0]'(by omega)).data.toList).toArray⟩ : ByteArray).data.toList) by rw [HZ.out])
 clear HZ HP
 generalize (⟨(Lib.trimPrefix s.data.toList (X[0]'(by omega)).data.toList).toArray⟩ : ByteArray) = R0 at *
 generalize Lib.hasPrefix s.data.toList (X[0]'(by omega)).data.toList = f0 at *
 go_wp2_with fail
 clear x0
 go_loopw [5,6,21] (fun rv fv iv wr=>∃ (k : Nat) (R : ByteArray) (fd : Bool),k <= X.length - 1 - 1 /\ iv = .int .i64 k /\ rv = .string R /\ fv = .bool fd /\ R.size <= 100 /\ Hid (z = (fd && grd (bl (X.drop (k + 1))) R.data.toList)) /\ Hid (Below w1.heap.size w1 wr)) (fun _ _ iv _=>X.length - 1 - 1 - (intOf iv).toNat)
 case atStart=>exact ⟨0,R0,f0,Nat.zero_le _,rfl,rfl,rfl,HR0.out,HZ0,hid (Below.refl _ _)⟩
 case round=>
  obtain ⟨k,R,fd,hk,rfl,rfl,rfl,hR,HZK,HB⟩:=hrel
  clear HR0 HZ0
  by_cases hlt : k < X.length - 1 - 1
  ·have hkI:=ix_lt hlt
   have hk0:=ix_pos k
   have HLT:=hid hlt
   have y0 : wr.cell? ⟨g,1 + k,none⟩ = some (.string (X[k + 1]'(by omega))):=by rw [Nat.add_comm 1 k]; exact cell_below HB.out (HC.out (k + 1) (by omega))
   have HCT:=hid (Tryz.strings_Cut R (X[k + 1]'(by omega)) m wr (by omega) (cell_below HB.out hm))
   have HG:=hid (show grd (bl (X.drop (k + 1))) R.data.toList = ((Lib.cut R.data.toList (X[k + 1]'(by omega)).data.toList).2.2 && grd (bl (X.drop (k + 1 + 1))) (Lib.cut R.data.toList (X[k + 1]'(by omega)).data.toList).2.1) by
    rw [blP_drop (show k + 1 < X.length by omega)]
    exact grd_cons _ (by intro h; have:=congrArg List.length h; rw [bl_len,List.length_drop] at this; simp at this; omega) _)
   have HSZ:=hid (show (⟨(Lib.cut R.data.toList (X[k + 1]'(by omega)).data.toList).2.1.toArray⟩ : ByteArray).size <= 100 by
    have:=cut_le R.data.toList (X[k + 1]'(by omega)).data.toList
    rw [len_eq] at this
    show (Lib.cut R.data.toList (X[k + 1]'(by omega)).data.toList).2.1.toArray.size <= 100
    rw [List.size_toArray]; omega)
   generalize X[k + 1]'(by omega) = x at *
   clear hlt
   cases fd
   ·go_wp2_with fail
    go_ret
    exact ⟨by rw [HZK.out]; rfl,HB.out⟩
   ·go_wp2_with fail
    refine HCT.out.mono ?_
    rintro e w2 ⟨rfl,n2,rfl⟩
    have HB2:=hid (HB.out.trans ((below_drawn wr n2).mono HB.out.size))
    go_wp2_with fail
    go_roundw
    case rel=>exact ⟨k + 1,_,_,HLT.out,by first | exact nr_idx k | exact nx_idx HLT.out (by omega : X.length - 1 - 1 <= 1000000),rfl,rfl,HSZ.out,hid (by rw [HZK.out,HG.out]; rfl),HB2⟩
    case measure=>first | exact nr_meas HLT.out | exact nx_meas HLT.out (by omega : X.length - 1 - 1 <= 1000000)
  ·have hkI:=ix_nlt hlt
   have hke : k = X.length - 1 - 1:=by omega
   have HG:=hid (show grd (bl (X.drop (k + 1))) R.data.toList = Lib.hasSuffix R.data.toList (X[X.length - 1]'(by omega)).data.toList by
    have e : bl (X.drop (k + 1)) = [(X[X.length - 1]'(by omega)).data.toList]:=by
     have e1 : k + 1 = X.length - 1:=by omega
     rw [e1,blP_drop (show X.length - 1 < X.length by omega),List.drop_eq_nil_of_le (by omega)]; rfl
    rw [e]; rfl)
   have y0:=cell_below HB.out (HC.out (X.length - 1) (by omega))
   have z0:=cell_below HB.out h0
   have z1:=cell_below HB.out h1
   have l3 : (0 : Int) <= ((X.length - 1 : Nat) : Int):=by omega
   have l4 : ((X.length - 1 : Nat) : Int) < (X.length : Int):=by omega
   have HH:=hid (Tryz.strings_HasSuffix R (X[X.length - 1]'(by omega)) wr (by omega))
   generalize X[X.length - 1]'(by omega) = x at *
   clear hlt hke
   cases fd
   ·go_wp2_with fail
    go_ret
    exact ⟨by rw [HZK.out]; rfl,HB.out⟩
   ·go_wp2_with fail
    refine HH.out.mono ?_
    rintro e w2 ⟨rfl,rfl⟩
    go_wp2_with fail
    go_ret
    exact ⟨by rw [HZK.out,HG.out]; rfl,HB.out⟩
theorem pcs_many (l : List UInt8) : (pcs l).length <= l.length + 1:=by
 have h:=Lib.splitB_all ⟨#[46,46,46]⟩ (by decide) 0 _ (⟨l.toArray⟩ : ByteArray) rfl
 have h2:=Lib.countB_le ⟨#[46,46,46]⟩ (by decide) _ (⟨l.toArray⟩ : ByteArray) (Nat.le_refl _)
 have h3:=bl_split3 (⟨l.toArray⟩ : ByteArray)
 have h4:=congrArg List.length h3
 rw [bl_len,h] at h4
 have h5 : (⟨l.toArray⟩ : ByteArray).size = l.length:=by show l.toArray.size = _; simp
 have h6 : (⟨l.toArray⟩ : ByteArray).data.toList = l:=rfl
 rw [h6] at h4
 omega
theorem eq_list (s p : ByteArray) : (s.toList == p.toList) = decide (s.data.toList = p.data.toList):=by
 rw [ByteArray.toList_eq,ByteArray.toList_eq,Bool.eq_iff_iff,beq_iff_eq,decide_eq_true_iff]
set_option maxRecDepth 100000 in
theorem pieces_any (p : ByteArray) (m : Int) (w : World) (hp : p.size <= 100) (hm : w.cell? ⟨8,0,none⟩ = some (.int .i64 m)) :
  Calls Tryz.prog 237 #[.string p] w fun e w'=>∃ f,e = .returned f /\ TstC w' f (matB p) /\ Below w.heap.size w w':=by
 have HB0:=hid ((Below.refl w.heap.size w).alloc (Nat.le_refl _) (.cells #[.string p] 9))
 have HSP:=hid (split3_any p m (w.alloc (.cells #[.string p] 9)) (by omega) (cell_below HB0.out hm))
 have HM:=hid (fun W (h : Below w.heap.size w W)=>cell_below h hm)
 have hc0 : (w.alloc (.cells #[.string p] 9)).cell? ⟨w.heap.size,0,none⟩ = some (.string p):=by simp
 have HCM:=hid (pcs_many p.data.toList)
 clear hm
 go_enter Tryz.func237,Tryz.ntmps237
 go_wp2_with fail
 refine HSP.out.mono ?_
 rintro e w1 ⟨X,rfl,hX,hcl,hb⟩
 have HB1:=hid (HB0.out.trans (hb.mono HB0.out.size))
 have x0:=cell_below hb hc0
 have HX:=hid hX
 have HCL:=hid hcl
 have HL:=hid (show X.length = (pcs p.data.toList).length by rw [<- hX,bl_len])
 have HL9:=hid (show X.length <= 1000 by have h1:=HL.out; have h2:=HCM.out; rw [len_eq] at h2; omega)
 have HLP:=hid (show 0 < X.length by rw [HL.out]; exact List.length_pos_iff.2 (pcs_ne _))
 have HW1:=hid (show w1.heap.size > 0 from Nat.lt_of_le_of_lt (Nat.zero_le _) (lt_of_cell x0))
 have hl1 : wrap64 ((X.length : Int) - 1) = ((X.length - 1 : Nat) : Int):=by
  have h1:=HLP.out; have h2:=HL9.out
  rw [IntWalk.wrap64_in _ (by omega)]; omega
 clear hX hcl hb hc0 HB0 HSP HCM
 have HCL1:=hid (show ∀ (j : Nat) (h : j < X.length),w1.cell? ⟨w.heap.size + 1,j,none⟩ = some (.string X[j]) from fun j h=>by simpa using HCL.out j h)
 have HBA:=hid (HB1.out.alloc HB1.out.size (.cells #[.slice (some ⟨w.heap.size + 1,0,none⟩) X.length X.length] 26))
 have HBB:=hid (HBA.out.alloc HBA.out.size (.cells #[.int .i64 ((X.length - 1 : Nat) : Int)] 3))
 have HNA:=hid ((Below.refl w1.heap.size w1).alloc (Nat.le_refl _) (.cells #[.slice (some ⟨w.heap.size + 1,0,none⟩) X.length X.length] 26))
 have HNB:=hid (HNA.out.alloc HNA.out.size (.cells #[.int .i64 ((X.length - 1 : Nat) : Int)] 3))
 clear HCL
 by_cases h1 : X.length = 1
 ·have d1 : ((((X.length - 1 : Nat) : Int)) == 0) = true:=by rw [h1]; rfl
  have HZ:=hid (fun s=>mat_one (s:=s) (p:=p.data.toList) (by rw [<- HL.out]; exact h1))
  clear h1
  go_wp2_with fail
  go_ret
  refine ⟨_,rfl,⟨274,#[.pointer (some ⟨w.heap.size,0,none⟩)],rfl,enPc1,fun W s hW hs=>?_⟩,HBB.out⟩
  refine (pcK1_any s p w.heap.size W (cell_below hW (cell_below HNB.out x0))).mono fun e W' ⟨he,hb⟩=>⟨?_,hb⟩
  rw [he,eq_list]
  show _ = Ending.returned (.bool (mtB (tok p.data.toList) s.data.toList))
  rw [HZ.out]
 ·have h2 : 2 <= X.length:=by have:=HLP.out; omega
  have d1 : ((((X.length - 1 : Nat) : Int)) == 0) = false:=by rw [beq_eq_false_iff_ne]; omega
  have HZ:=hid (fun s=>mat_more (s:=s) (p:=p.data.toList) (a:=(X[0]'(by omega)).data.toList) (r:=bl (X.drop 1)) (by rw [<- HX.out]; exact blP_drop (k:=0) (by omega)) (by intro h; have:=congrArg List.length h; rw [bl_len,List.length_drop] at this; simp at this; omega))
  have H2:=hid h2
  clear h1
  go_wp2_with fail
  go_ret
  refine ⟨_,rfl,⟨275,#[.pointer (some ⟨w1.heap.size,0,none⟩),.pointer (some ⟨w1.heap.size + 1,0,none⟩)],rfl,enPc2,fun W s hW hs=>?_⟩,HBB.out⟩
  exact pcK2_any s X (w.heap.size + 1) w1.heap.size (w1.heap.size + 1) m W (matB p s) hs H2.out HL9.out (HM.out W (HBB.out.trans (hW.mono HBB.out.size))) (cell_below hW (by simp)) (cell_below hW (by simp)) (fun j h=>cell_below hW (cell_below HNB.out (HCL1.out j h))) (HZ.out _)
theorem TstC.call {w : World} {f : Value} {P : ByteArray -> Bool} (h : TstC w f P) : ∃ K cb,f = .func (.func K) #[] cb /\ (∀ args w,(callFunc K args).run Tryz.prog w = .ok (.enter K args) w) /\ Hid (TstC w (.func (.func K) #[] cb) P):=by
 obtain ⟨K,cb,e,en,hK⟩:=h
 exact ⟨K,cb,e,en,⟨K,cb,rfl,en,hK⟩⟩
theorem ism_shut {p s : ByteArray} (h : Lib.hasSuffix p.data.toList slashDots = false) : ismB p s = matB p s:=by
 rw [<- Lib.hasSuffix_of_drop] at h
 unfold ismB
 have e : (decide (4 <= p.size) && decide (p.data.toList.drop (p.size - 4) = slashDots)) = false:=by
  rw [<- h,len_eq,Bool.eq_iff_iff,Bool.and_eq_true,Bool.and_eq_true,decide_eq_true_iff,decide_eq_true_iff,decide_eq_true_iff,beq_iff_eq]; rfl
 rw [<- Bool.and_assoc,e,Bool.false_and,Bool.or_false]
theorem ism_open {p s : ByteArray} (h : Lib.hasSuffix p.data.toList slashDots = true) : ismB p s = (matB p s || matB ⟨(Lib.trimSuffix p.data.toList slashDots).toArray⟩ s):=by
 have ht : Lib.trimSuffix p.data.toList slashDots = p.data.toList.take (p.size - 4):=by
  unfold Lib.trimSuffix
  rw [if_pos h,len_eq]; rfl
 have he : (⟨(Lib.trimSuffix p.data.toList slashDots).toArray⟩ : ByteArray) = p.extract 0 (p.size - 4):=by
  rw [ht,Lib.extract_eq]; simp
 rw [<- Lib.hasSuffix_of_drop] at h
 unfold ismB
 have e : (decide (4 <= p.size) && decide (p.data.toList.drop (p.size - 4) = slashDots)) = true:=by
  rw [<- h,len_eq,Bool.eq_iff_iff,Bool.and_eq_true,Bool.and_eq_true,decide_eq_true_iff,decide_eq_true_iff,decide_eq_true_iff,beq_iff_eq]; rfl
 rw [<- Bool.and_assoc,e,Bool.true_and,he]
set_option maxRecDepth 100000 in
theorem matcher_any (p : ByteArray) (m : Int) (w : World) (hp : p.size <= 100) (hm : w.cell? ⟨8,0,none⟩ = some (.int .i64 m)) :
  Calls Tryz.prog 188 #[.string p] w fun e w'=>∃ f,e = .returned f /\ TstC w' f (ismB p) /\ Below w.heap.size w w':=by
 have HP:=hid (pieces_any p m w hp hm)
 have HM:=hid (fun W (h : Below w.heap.size w W)=>cell_below h hm)
 have HCS:=hid (fun W=>Tryz.strings_CutSuffix p ⟨#[47,46,46,46]⟩ W (by omega))
 have HTS:=hid (show (⟨(Lib.trimSuffix p.data.toList slashDots).toArray⟩ : ByteArray).size <= 100 by
  have:=Lib.trimSuffix_le p.data.toList slashDots
  rw [len_eq] at this
  show (Lib.trimSuffix p.data.toList slashDots).toArray.size <= 100
  rw [List.size_toArray]; omega)
 clear hm
 cases ho : Lib.hasSuffix p.data.toList slashDots
 ·have HI:=hid (show ismB p = matB p from funext fun s=>ism_shut ho)
  have HO:=hid (fun W=>show Calls Tryz.prog 238 #[.string p,.string ⟨#[47,46,46,46]⟩] W fun e w'=>∃ h,e = .returned (.tuple #[.string h,.bool false]) /\ w' = W from (HCS.out W).mono fun e w' ⟨h1,h2⟩=>⟨⟨(Lib.trimSuffix p.data.toList slashDots).toArray⟩,by
   rw [h1,<- ho]; rfl,h2⟩)
  clear HCS ho
  go_enter Tryz.func188,Tryz.ntmps188
  go_wp2_with fail
  refine HP.out.mono ?_
  rintro e w1 ⟨f,rfl,hf,hb⟩
  obtain ⟨K,cb,rfl,en,HF⟩:=hf.call
  have HB1:=hid hb
  have HN:=hid ((Below.refl w1.heap.size w1).alloc (Nat.le_refl _) (.cells #[.func (.func K) #[] cb] 43))
  clear hf hb
  go_wp2_with fail
  refine (HO.out _).mono ?_
  rintro e w2 ⟨h,rfl,rfl⟩
  go_wp2_with fail
  go_ret
  exact ⟨_,rfl,by rw [HI.out]; exact HF.out.below HN.out,HB1.out.trans (HN.out.mono HB1.out.size)⟩
 ·have HI:=hid (fun s=>ism_open (s:=s) ho)
  have HO:=hid (fun W=>show Calls Tryz.prog 238 #[.string p,.string ⟨#[47,46,46,46]⟩] W fun e w'=>e = .returned (.tuple #[.string ⟨(Lib.trimSuffix p.data.toList slashDots).toArray⟩,.bool true]) /\ w' = W from (HCS.out W).mono fun e w' ⟨h1,h2⟩=>⟨by
   rw [h1,<- ho]; rfl,h2⟩)
  generalize (⟨(Lib.trimSuffix p.data.toList slashDots).toArray⟩ : ByteArray) = h at *
  have HP2:=hid (fun W (hb : Below w.heap.size w W)=>pieces_any h m W HTS.out (HM.out W hb))
  clear HCS ho
  go_enter Tryz.func188,Tryz.ntmps188
  go_wp2_with fail
  refine HP.out.mono ?_
  rintro e w1 ⟨f,rfl,hf,hb⟩
  obtain ⟨K,cb,rfl,en,HF⟩:=hf.call
  have HB1:=hid hb
  have HN:=hid ((Below.refl w1.heap.size w1).alloc (Nat.le_refl _) (.cells #[.func (.func K) #[] cb] 43))
  have HB2:=hid (HB1.out.trans (HN.out.mono HB1.out.size))
  have HF2:=hid (HF.out.below HN.out)
  have x0 : (w1.alloc (.cells #[.func (.func K) #[] cb] 43)).cell? ⟨w1.heap.size,0,none⟩ = some (.func (.func K) #[] cb):=by simp
  clear hf hb HF
  go_wp2_with fail
  refine (HO.out _).mono ?_
  rintro e w2 ⟨rfl,rfl⟩
  go_wp2_with fail
  refine (HP2.out _ HB2.out).mono ?_
  rintro e w3 ⟨f,rfl,hf,hb⟩
  obtain ⟨K2,cb2,rfl,en2,HG⟩:=hf.call
  have HB3:=hid (HB2.out.trans (hb.mono HB2.out.size))
  have HF3:=hid (HF2.out.below hb)
  have x1:=cell_below hb x0
  have HM3:=hid ((Below.refl w3.heap.size w3).alloc (Nat.le_refl _) (.cells #[.func (.func K2) #[] cb2] 43))
  clear hf hb x0
  go_wp2_with fail
  go_ret
  refine ⟨_,rfl,⟨239,#[.pointer (some ⟨w1.heap.size,0,none⟩),.pointer (some ⟨w3.heap.size,0,none⟩)],rfl,enMr1,fun W s hW hs=>?_⟩,HB3.out.trans (HM3.out.mono HB3.out.size)⟩
  rw [HI.out]
  exact mrK_any s (matB p) (matB h) _ _ w1.heap.size w3.heap.size W hs ((HF3.out.below HM3.out).below hW) ((HG.out.below HM3.out).below hW) (cell_below hW (cell_below HM3.out x1)) (cell_below hW (by simp))
end Ve
end Go.Proofs.YtjbmjnbkibmkpaaGreatDoor
