
import Derived.Test.YtjbmjnbkibmkpaaGreatDoorGt1
import Derived.Deep.Onto
import Derived.Shelf.Strings.Builder1
import Derived.Shelf.Strings.Builder2
import Derived.Shelf.Strings.OnBuilder
import Derived.Shelf.Strings.Trim
import Derived.Shelf.Small.Utf8
import Derived.Shelf.Small.Bits
import Derived.Shelf.Small.Strs
import Derived.Shelf.Small.Wraps
import Derived.Shelf.Strings.BuilderF
import Derived.Shelf.Strings.BuilderK
import Derived.Shelf.Strconv.Itoa0
import Derived.Shelf.Strconv.Itoa1
import Derived.Shelf.LaysM
import Derived.Shelf.Strconv.Itoa2
import Derived.Shelf.Strconv.Itoa3
import Derived.Shelf.Strings.Search1
import Derived.Shelf.Strings.Search2
import Derived.Shelf.Strings.Search3
import Derived.Shelf.Strings.Cut
import Derived.Shelf.Strings.Count
import Derived.Shelf.Strings.Shaped
import Derived.Shelf.Sort.Plain
import Derived.Shelf.Strings.Prefix
import Derived.Shelf.Strings.Split
import Derived.Shelf.Strings.Replace
import Derived.Shelf.Strings.Runes
import Derived.Shelf.Strings.AsciiSet
import Derived.Shelf.Unicode.DecodeSlow
import Derived.Shelf.Unicode.DecodeAny
import Derived.Shelf.Slices.Equal
import Derived.Shelf.Slices.CompactS
import Derived.Ground.Names2Prog
import Derived.Shelf.Slices.SearchI
import Derived.Shelf.Slices.Cells
import Derived.Shelf.Slices.In.SortNone
import Derived.Shelf.Slices.Empties2
import Derived.Test.YtjbmjnbkibmkpaaGreatDoorProg
namespace Go.Proofs.YtjbmjnbkibmkpaaGreatDoor
open Go.RowKit
namespace Ve
theorem split_any (c : UInt8) (s : ByteArray) (m : Int) (w : World) (hs : s.size < 4294967281) (hm : w.cell? ⟨8,0,none⟩ = some (.int .i64 m)) :
  Calls Tryz.prog 69 #[.string s,.string ⟨#[c]⟩] w fun e w'=>∃ X : List ByteArray,e = .returned (.slice (some ⟨w.heap.size,0,none⟩) X.length X.length) /\ bl X = cutAt c s.data.toList /\
   (∀ j (h : j < X.length),w'.cell? ⟨w.heap.size,0 + j,none⟩ = some (.string X[j])) /\ Below w.heap.size w w' /\ w.heap.size < w'.heap.size:=by
 refine (Tryz.strings_Split s ⟨#[c]⟩ m w hs hm (Nat.le_refl 1)).mono fun e w' ⟨h1,h2⟩=>?_
 have hlen:=Lib.splitB_all ⟨#[c]⟩ (Nat.le_refl 1) 0 _ s rfl
 refine ⟨Lib.splitB ⟨#[c]⟩ 0 (Lib.countB s ⟨#[c]⟩) s,?_,bl_split c s,?_,?_,?_⟩
 ·rw [h1,hlen]
 ·intro j hj
  rw [h2,World.cell?_alloc_at _ _ _ _ rfl]
  simp [hj]
 ·rw [h2]; exact (Below.refl _ _).alloc (Nat.le_refl _) _
 ·rw [h2]; simp
theorem piece_le {c : UInt8} {s x : ByteArray} {X : List ByteArray} (hX : bl X = cutAt c s.data.toList) (hx : x ∈ X) : x.size <= s.size:=by
 have:=cutAt_le c s.data.toList _ (hX ▸ bl_mem hx)
 simpa using this
theorem many_le {c : UInt8} {s : ByteArray} {X : List ByteArray} (hX : bl X = cutAt c s.data.toList) : X.length <= s.size + 1:=by
 have:=cutAt_many c s.data.toList
 rw [<- hX,bl_len] at this
 simpa using this
theorem infoInt : (Tryz.prog.info? 3).map (fun i=>(i.zero,i.size,i.bytes)) = some (some (.int .i64 0),1,8):=by kernel_rfl
theorem owns_below {w w' : World} {base : Nat} {e : TypeId} {size : Nat} {v : Value} {n : Nat} {xs : List Value} (h : w.ownsRow base e size v n xs) (hb : Below w.heap.size w w') : w'.ownsRow base e size v n xs:=by
 obtain ⟨hl,h | ⟨g,cap,cur,e1,e2,e3,e4,e5,e6,e7⟩⟩:=h
 ·exact ⟨hl,Or.inl h⟩
 ·exact ⟨hl,Or.inr ⟨g,cap,cur,e1,e2,by rw [hb.block _ (lt_of_blk e3)]; exact e3,e4,e5,e6,e7⟩⟩
theorem rel_app {B : Nat} {w wr w2 w3 : World} {e : TypeId} {v : Value} {n : Nat} {xs : List Value} {o : Obj} (hB : B <= wr.heap.size) (hb : Below B w wr) (hown : wr.ownsRow B e 1 v n xs) (hb2 : Below wr.heap.size wr w2)
  (hg : (w2.alloc o).grownBy w3 v.ownBlock) : Below B w w3:=by
 have h2 : Below B w w2:=hb.trans (hb2.mono hB)
 have h3 : Below B w (w2.alloc o):=h2.alloc (Nat.le_trans hB hb2.size) o
 exact h3.grown hg (by simp; exact Nat.le_succ_of_le (Nat.le_trans hB hb2.size)) (fun k hk=>(hown.lt k hk).1)
set_option maxHeartbeats 1000000 in
theorem nums_any (s : ByteArray) (aT aB : Addr) (m : Int) (w : World) (hs : s.size < 4294967281) (S : Vs w aT aB m) :
  Calls Tryz.prog 68 #[.string s] w fun e w'=>∃ v,e = .returned (.tuple #[v,errV aT aB (numsErr (cutAt 46 s.data.toList))]) /\
   w'.ownsRow w.heap.size 3 1 v (cutAt 46 s.data.toList).length ((numsOf (cutAt 46 s.data.toList)).map (Value.int .i64)) /\ Below w.heap.size w w':=by
 obtain ⟨i0,hi,hz0,hz1,hz2⟩:=info_parts infoInt
 have HS:=hid S
 clear S
 go_enter Tryz.func68,Tryz.ntmps68
 go_wp2_with fail
 refine (split_any 46 s m w hs HS.out.ml).mono ?_
 rintro e w1 ⟨X,rfl,hX,hc,hb,hz⟩
 have HX:=hid hX
 have HC:=hid hc
 have HB:=hid hb
 have hn:=many_le hX
 clear hX hc hb
 go_wp2_with fail
 go_loopw [4,5,13] (fun v bad i wr=>∃ k : Nat,k <= X.length /\ i = .int .i64 k /\ bad = errV aT aB (numsErr (bl (X.take k))) /\
   wr.ownsRow w1.heap.size 3 1 v k ((numsOf (bl (X.take k))).map (Value.int .i64)) /\ Below w1.heap.size w1 wr) (fun _ _ i _=>X.length - (intOf i).toNat)
 case atStart=>exact ⟨0,Nat.zero_le _,rfl,rfl,World.ownsRow_nil _ _ _ _,Below.refl _ _⟩
 case round=>
  obtain ⟨k,hk,rfl,rfl,hown,hbr⟩:=hrel
  have HO:=hid hown
  have HBR:=hid hbr
  clear hown hbr
  have hz2':=HBR.out.size
  by_cases hlt : k < X.length
  ·have hcell : wr.cell? ⟨w.heap.size,k,none⟩ = some (.string X[k]):=by
    have:=HC.out k hlt
    rw [Nat.zero_add] at this
    exact cell_below HBR.out this
   have HE:=hid (numsErr_err (bl (X.take k)))
   have HSN:=hid (numsErr_snoc (bl (X.take k)) X[k].data.toList)
   have HON:=hid (numsOf_snoc (bl (X.take k)) X[k].data.toList)
   rw [<- bl_take_snoc X k hlt] at HSN HON
   have HXK:=hid (show X[k].size <= maxLen by have:=piece_le HX.out (List.getElem_mem hlt); unfold maxLen; omega)
   have HW:=hid (HB.out.trans (HBR.out.mono HB.out.size))
   generalize hq : numsErr (bl (X.take k)) = q at *
   generalize hq2 : numsOf (bl (X.take k)) = q2 at *
   clear hq hq2
   go_wp2_with fail
   refine (num_any X[k] aT aB m wr HXK.out (HS.out.below HW.out)).mono ?_
   rintro e w2 ⟨rfl,hb2⟩
   have HB2:=hid hb2
   have HPE:=hid (num_err X[k].data.toList)
   have hz3:=hb2.size
   clear hb2
   go_wp2_with fail
   refine (worse_any q _ aT aB m w2 (HS.out.below (HW.out.trans (HB2.out.mono HW.out.size))) HE.out HPE.out).mono ?_
   rintro e w' ⟨rfl,rfl⟩
   rw [<- HSN.out]
   go_wp2_with (at_builtin; refine wpList_append_own _ rfl _ _ 101 rfl w1.heap.size 3 i0 (.int .i64 0) 1 8 Tryz.underlying101 hi hz0 hz1 hz2 rfl (by decide) _ _ _ rfl ((owns_below HO.out HB2.out).alloc _) ⟨w'.heap.size,0,none⟩ 1 1 [.int .i64 (num X[k].data.toList).1] rfl rfl ?c1 ?c2 ?c3 ?c4 ?c5 ?_)
   case c1=>
    intro j u hj
    match j,hj with
    | 0,hj=>simp at hj; subst hj; simp [Addr.add]
   case c2=>intro u hu; simp at hu; subst hu; rfl
   case c3=>unfold maxLen; omega
   case c4=>omega
   case c5=>simp; omega
   intro v' w3 hown' hgrow _
   have HR:=hid (rel_app hz2' HBR.out HO.out HB2.out hgrow)
   have HO':=hid hown'
   clear hown' hgrow
   go_wp2_with fail
   go_roundw
   case rel=>exact ⟨k + 1,by omega,by go_num,rfl,by rw [HON.out]; simpa using HO'.out,HR.out⟩
   case measure=>simp [intOf]; omega
  ·have hkk : X.take k = X:=List.take_of_length_le (by omega)
   have hkl : k = X.length:=by omega
   rw [hkk] at HO ⊢
   subst hkl
   have HL:=hid (show (cutAt 46 s.data.toList).length = X.length by rw [<- HX.out,bl_len])
   have HF:=hid (HB.out.trans (HBR.out.mono HB.out.size))
   clear hkk
   go_wp2_with fail
   go_ret2
   exact ⟨_,by rw [HX.out]; rfl,by rw [HL.out,<- HX.out]; exact HO.out.mono HB.out.size,HF.out⟩
end Ve
end Go.Proofs.YtjbmjnbkibmkpaaGreatDoor


namespace Go.Proofs.YtjbmjnbkibmkpaaGreatDoor
open Go.RowKit
namespace Ve
def marked (l : List UInt8) : Bool:=l.headD 0 == 118
def restOf (l : List UInt8) : List UInt8:=if marked l then l.drop 1 else l
theorem hasPrefix_v (l : List UInt8) : Lib.hasPrefix l [118] = marked l:=by
 cases l with
 | nil=>rfl
 | cons b l=>
  show ([118] : List UInt8).isPrefixOf (b :: l) = (b == 118)
  simp only [List.isPrefixOf,Bool.and_true]
  exact Bool.beq_comm
theorem trimPrefix_v (l : List UInt8) : Lib.trimPrefix l [118] = restOf l:=by
 unfold Lib.trimPrefix restOf
 rw [hasPrefix_v]; rfl
theorem restOf_le (l : List UInt8) : (restOf l).length <= l.length:=by unfold restOf; split <;> simp
def coreOf (l : List UInt8) : List (List UInt8):=cutAt 46 (one 45 (restOf l)).1
def hasPre (l : List UInt8) : Bool:=(one 45 (restOf l)).2.2
def preOf (l : List UInt8) : List (List UInt8):=if hasPre l then cutAt 46 (one 45 (restOf l)).2.1 else []
def verErr (l : List UInt8) : Nat:=
 if marked l = false \/ (coreOf l).length ≠ 3 then 1
 else if hasPre l then worse (numsErr (coreOf l)) (pre (preOf l)) else numsErr (coreOf l)
theorem cutPrefix_any (s : ByteArray) (w : World) :
  Calls Tryz.prog 67 #[.string s,.string ⟨#[118]⟩] w fun e w'=>∃ R : ByteArray,e = .returned (.tuple #[.string R,.bool (marked s.data.toList)]) /\ R.data.toList = restOf s.data.toList /\ w' = w:=
 (Tryz.strings_CutPrefix s ⟨#[118]⟩ w).mono fun e w' ⟨h1,h2⟩=>by
  have e0 : (⟨#[118]⟩ : ByteArray).data.toList = [118]:=rfl
  rw [e0,trimPrefix_v,hasPrefix_v] at h1
  exact ⟨⟨(restOf s.data.toList).toArray⟩,h1,by simp,h2⟩
theorem cut_any (s : ByteArray) (m : Int) (w : World) (hs : s.size < 4294967281) (hm : w.cell? ⟨8,0,none⟩ = some (.int .i64 m)) :
  Calls Tryz.prog 31 #[.string s,.string ⟨#[45]⟩] w fun e w'=>∃ C T : ByteArray,e = .returned (.tuple #[.string C,.string T,.bool (one 45 s.data.toList).2.2]) /\ C.data.toList = (one 45 s.data.toList).1 /\ T.data.toList = (one 45 s.data.toList).2.1 /\ Below w.heap.size w w':=
 (Tryz.strings_Cut s ⟨#[45]⟩ m w hs hm).mono fun e w' ⟨h1,n,h2⟩=>by
  have e0 : (⟨#[45]⟩ : ByteArray).data.toList = [45]:=rfl
  rw [e0,cut_one] at h1
  exact ⟨⟨(one 45 s.data.toList).1.toArray⟩,⟨(one 45 s.data.toList).2.1.toArray⟩,h1,by simp,by simp,by rw [h2]; exact below_drawn w n⟩
theorem one_le (c : UInt8) (l : List UInt8) : (one c l).1.length <= l.length /\ (one c l).2.1.length <= l.length:=by
 unfold one
 have h:=congrArg List.length (List.takeWhile_append_dropWhile (p:=(· != c)) (l:=l))
 simp only [List.length_append] at h
 simp only [List.length_drop]
 omega
theorem size_of {s : ByteArray} {l : List UInt8} (h : s.data.toList = l) : s.size = l.length:=by rw [<- h]; simp
theorem res4 {w w3 : World} {a b c d : Value} {T : TypeId} (hb : Below (w.heap.size + 1) (w.alloc (.cells #[a,b,c,d] T)) w3) :
  (w3.cell? ⟨w.heap.size,0,none⟩ = some a /\ w3.cell? ⟨w.heap.size,1,none⟩ = some b /\ w3.cell? ⟨w.heap.size,2,none⟩ = some c /\ w3.cell? ⟨w.heap.size,3,none⟩ = some d) /\
  (∀ o,w3.frozen? ⟨w.heap.size,o,none⟩ = false) /\ w.heap.size < w3.heap.size:=by
 refine ⟨⟨?_,?_,?_,?_⟩,?_,?_⟩
 ·rw [hb.cell (by simp)]; simp
 ·rw [hb.cell (by simp)]; simp
 ·rw [hb.cell (by simp)]; simp
 ·rw [hb.cell (by simp)]; simp
 ·intro o; rw [hb.frozen (by simp)]; simp
 ·have:=hb.size; simp at this; omega
set_option maxHeartbeats 1000000 in
theorem vsplit_shape (s : ByteArray) (aT aB : Addr) (m : Int) (w : World) (hs : s.size < 4294967281) (S : Vs w aT aB m) (h0 : marked s.data.toList = false \/ (coreOf s.data.toList).length ≠ 3) :
  Calls Tryz.prog 35 #[.string s] w fun e w'=>e = .returned (.tuple #[.agg #[.int .i64 0,.int .i64 0,.int .i64 0,.slice none 0 0],.iface 311 (.pointer (some aT))]) /\ Below w.heap.size w w':=by
 have HB0:=hid ((Below.refl w.heap.size w).alloc (Nat.le_refl _) (.cells #[.int .i64 0,.int .i64 0,.int .i64 0,.slice none 0 0] 66))
 have HS:=hid (S.below HB0.out)
 have H0:=hid h0
 have hne1 : ¬ w.heap.size = 1:=by have:=lt_of_cell S.t; simp at this; omega
 have hne2 : ¬ 1 = w.heap.size:=fun h=>hne1 h.symm
 clear S h0
 go_enter Tryz.func35,Tryz.ntmps35
 go_wp2_with fail
 refine (cutPrefix_any s _).mono ?_
 rintro e w1 ⟨R,rfl,hR,rfl⟩
 have HR:=hid hR
 have hRs : R.size < 4294967281:=by
  have h1:=size_of hR
  have h2:=restOf_le s.data.toList
  simp at h2; omega
 clear hR
 go_wp2_with fail
 refine (cut_any R m _ hRs HS.out.ml).mono ?_
 rintro e w2 ⟨C,T,rfl,hC,hT,hb2⟩
 have HC:=hid hC
 have hCs : C.size < 4294967281:=by
  have h1:=size_of hC
  have h2:=(one_le 45 R.data.toList).1
  simp at h2; omega
 have HB2:=hid (show Below (w.heap.size + 1) (w.alloc (.cells #[.int .i64 0,.int .i64 0,.int .i64 0,.slice none 0 0] 66)) w2 from hb2.mono (by simp))
 have HS2:=hid (HS.out.below hb2)
 clear hC hT hb2
 go_wp2_with fail
 refine (nums_any C aT aB m w2 hCs HS2.out).mono ?_
 rintro e w3 ⟨v,rfl,hown,hb3⟩
 have HO:=hid hown
 have HB3:=hid (HB2.out.trans (hb3.mono (by have:=HB2.out.size; simpa using this)))
 obtain ⟨⟨r0,r1,r2,r3⟩,rf,rz⟩:=res4 HB3.out
 have HS3:=hid (HS2.out.below hb3)
 have g:=HS3.out.t
 have HBF:=hid (HB0.out.trans (HB3.out.mono (by omega)))
 have hCC : cutAt 46 C.data.toList = coreOf s.data.toList:=by rw [HC.out,HR.out]; rfl
 rw [hCC] at HO
 clear hown hb3 hCC
 cases hmk : marked s.data.toList
 ·clear hmk
  go_wp2_with fail
  go_region
  all_goals (try go_wp2)
  all_goals
   refine bodyPost_ret (v:=.tuple #[.agg #[.int .i64 0,.int .i64 0,.int .i64 0,.slice none 0 0],.iface 311 (.pointer (some aT))]) (by simp [results,Tryz.results35,go_sem,r0,r1,r2,r3]) rfl ⟨rfl,?_⟩
   exact ((((HBF.out.setCell (Nat.le_refl _) _).setCell (Nat.le_refl _) _).setCell (Nat.le_refl _) _).setCell (Nat.le_refl _) _).drew
 ·have h3 : (((coreOf s.data.toList).length : Int) == 3) = false:=by
   rcases H0.out with h | h
   ·rw [hmk] at h; cases h
   ·simp; omega
  clear hmk
  obtain ⟨_,⟨_,hn0⟩ | ⟨g9,cap,cur,hv,_⟩⟩:=HO.out
  ·exact absurd (List.length_eq_zero_iff.1 hn0) (cutAt_ne _ _)
  ·subst hv
   generalize (coreOf s.data.toList).length = n at *
   go_wp2_with fail
   go_region
   all_goals (try go_wp2)
   all_goals
    refine bodyPost_ret (v:=.tuple #[.agg #[.int .i64 0,.int .i64 0,.int .i64 0,.slice none 0 0],.iface 311 (.pointer (some aT))]) (by simp [results,Tryz.results35,go_sem,r0,r1,r2,r3]) rfl ⟨rfl,?_⟩
    exact ((((HBF.out.setCell (Nat.le_refl _) _).setCell (Nat.le_refl _) _).setCell (Nat.le_refl _) _).setCell (Nat.le_refl _) _).drew
def StrsAt (w : World) (v : Value) (X : List ByteArray) : Prop:=
 (X = [] /\ v = .slice none 0 0) \/ (X ≠ [] /\ ∃ b,v = .slice (some ⟨b,0,none⟩) X.length X.length /\ b < w.heap.size /\ ∀ j (h : j < X.length),w.cell? ⟨b,0 + j,none⟩ = some (.string X[j]))
theorem StrsAt.below {w w' : World} {v : Value} {X : List ByteArray} (h : StrsAt w v X) (hb : Below w.heap.size w w') : StrsAt w' v X:=by
 rcases h with h | ⟨h,b,e1,e2,e3⟩
 ·exact Or.inl h
 ·exact Or.inr ⟨h,b,e1,Nat.lt_of_lt_of_le e2 hb.size,fun j hj=>cell_below hb (e3 j hj)⟩
def nAt (l : List UInt8) (i : Nat) : Int:=(numsOf (coreOf l)).getD i 0
theorem n_three {l : List UInt8} (h : (coreOf l).length = 3) : numsOf (coreOf l) = [nAt l 0,nAt l 1,nAt l 2]:=by
 unfold nAt
 have : (numsOf (coreOf l)).length = 3:=by rw [numsOf_len,h]
 match hq : numsOf (coreOf l),this with
 | [a,b,c],_=>rfl
theorem three_cells {w : World} {g : Nat} {cur : Array Value} {e : TypeId} {a b c : Int} (hb : w.heap[g]? = some (.cells cur e (0,0))) (ht : cur.toList.take (3 * 1) = [a,b,c].map (Value.int .i64)) :
  w.cell? ⟨g,0,none⟩ = some (.int .i64 a) /\ w.cell? ⟨g,1,none⟩ = some (.int .i64 b) /\ w.cell? ⟨g,2,none⟩ = some (.int .i64 c):=by
 have key : ∀ i,i < 3 -> cur[i]? = ([a,b,c].map (Value.int .i64))[i]?:=fun i hi=>by
  rw [<- ht,List.getElem?_take,if_pos (by omega)]; simp
 have k0:=key 0 (by omega)
 have k1:=key 1 (by omega)
 have k2:=key 2 (by omega)
 simp at k0 k1 k2
 simp [World.cell?,hb,k0,k1,k2]
set_option maxHeartbeats 1000000 in
theorem vsplit_num (s : ByteArray) (aT aB : Addr) (m : Int) (w : World) (hs : s.size < 4294967281) (S : Vs w aT aB m) (hmk : marked s.data.toList = true) (h3 : (coreOf s.data.toList).length = 3) (hp : hasPre s.data.toList = false) (hq : numsErr (coreOf s.data.toList) ≠ 0) :
  Calls Tryz.prog 35 #[.string s] w fun e w'=>e = .returned (.tuple #[.agg #[.int .i64 0,.int .i64 0,.int .i64 0,.slice none 0 0],errV aT aB (numsErr (coreOf s.data.toList))]) /\ Below w.heap.size w w':=by
 have HQ:=hid hq
 clear hq
 have HB0:=hid ((Below.refl w.heap.size w).alloc (Nat.le_refl _) (.cells #[.int .i64 0,.int .i64 0,.int .i64 0,.slice none 0 0] 66))
 have HS:=hid (S.below HB0.out)
 have hne1 : ¬ w.heap.size = 1:=by have:=lt_of_cell S.t; simp at this; omega
 have hne2 : ¬ 1 = w.heap.size:=fun h=>hne1 h.symm
 have HM:=hid hmk
 have H3:=hid h3
 have HP:=hid hp
 clear S hmk h3 hp
 go_enter Tryz.func35,Tryz.ntmps35
 go_wp2_with fail
 refine (cutPrefix_any s _).mono ?_
 rintro e w1 ⟨R,rfl,hR,rfl⟩
 rw [HM.out]
 have HR:=hid hR
 have hRs : R.size < 4294967281:=by
  have h1:=size_of hR
  have h2:=restOf_le s.data.toList
  simp at h2; omega
 clear hR
 go_wp2_with fail
 refine (cut_any R m _ hRs HS.out.ml).mono ?_
 rintro e w2 ⟨C,T,rfl,hC,hT,hb2⟩
 rw [show (one 45 R.data.toList).2.2 = false by rw [HR.out]; exact HP.out]
 have HC:=hid hC
 have HT:=hid hT
 have hCs : C.size < 4294967281:=by
  have h1:=size_of hC
  have h2:=(one_le 45 R.data.toList).1
  simp at h2; omega
 have hTs : T.size < 4294967281:=by
  have h1:=size_of hT
  have h2:=(one_le 45 R.data.toList).2
  simp at h2; omega
 have HB2:=hid (show Below (w.heap.size + 1) (w.alloc (.cells #[.int .i64 0,.int .i64 0,.int .i64 0,.slice none 0 0] 66)) w2 from hb2.mono (by simp))
 have HS2:=hid (HS.out.below hb2)
 clear hC hT hb2
 go_wp2_with fail
 refine (nums_any C aT aB m w2 hCs HS2.out).mono ?_
 rintro e w3 ⟨v,rfl,hown,hb3⟩
 have hCC : cutAt 46 C.data.toList = coreOf s.data.toList:=by rw [HC.out,HR.out]; rfl
 rw [hCC] at hown ⊢
 rw [H3.out,n_three H3.out] at hown
 have HB3:=hid (HB2.out.trans (hb3.mono (by have:=HB2.out.size; simpa using this)))
 have HS3:=hid (HS2.out.below hb3)
 have HZ:=hid (show w.heap.size + 1 <= w2.heap.size by have:=HB2.out.size; simpa using this)
 obtain ⟨_,⟨_,hn0⟩ | ⟨g9,cap,cur,hv,hg9,hblk,hcap,hcm,hcs,hct⟩⟩:=hown
 ·cases hn0
 subst hv
 have HK:=hid (show w3.cell? ⟨g9,0,none⟩ = some (.int .i64 (nAt s.data.toList 0)) /\ w3.cell? ⟨g9,1,none⟩ = some (.int .i64 (nAt s.data.toList 1)) /\ w3.cell? ⟨g9,2,none⟩ = some (.int .i64 (nAt s.data.toList 2)) from three_cells hblk hct)
 have HG:=hid hg9
 clear hg9 hblk hcap hcm hcs hct hb3 hCC
 have HE:=hid (numsErr_err (coreOf s.data.toList))
 rcases HE.out with h | h | h
 ·exact absurd h HQ.out
 ·have HH:=hid h
  rw [h,errV1]
  clear h
  obtain ⟨⟨r0,r1,r2,r3⟩,rf,rz⟩:=res4 HB3.out
  have HBF:=hid (HB0.out.trans (HB3.out.mono (by omega)))
  go_wp2_with fail
  refine bodyPost_ret (v:=.tuple #[.agg #[.int .i64 0,.int .i64 0,.int .i64 0,.slice none 0 0],.iface 311 (.pointer (some aT))]) (by simp [results,Tryz.results35,go_sem,r0,r1,r2,r3]) rfl ⟨by rw [HH.out]; rfl,?_⟩
  exact (((HBF.out.setCell (Nat.le_refl _) _).setCell (Nat.le_refl _) _).setCell (Nat.le_refl _) _).setCell (Nat.le_refl _) _
 ·have HH:=hid h
  rw [h,errV2]
  clear h
  obtain ⟨⟨r0,r1,r2,r3⟩,rf,rz⟩:=res4 HB3.out
  have HBF:=hid (HB0.out.trans (HB3.out.mono (by omega)))
  go_wp2_with fail
  refine bodyPost_ret (v:=.tuple #[.agg #[.int .i64 0,.int .i64 0,.int .i64 0,.slice none 0 0],.iface 311 (.pointer (some aB))]) (by simp [results,Tryz.results35,go_sem,r0,r1,r2,r3]) rfl ⟨by rw [HH.out]; rfl,?_⟩
  exact (((HBF.out.setCell (Nat.le_refl _) _).setCell (Nat.le_refl _) _).setCell (Nat.le_refl _) _).setCell (Nat.le_refl _) _
set_option maxHeartbeats 1000000 in
theorem vsplit_plain (s : ByteArray) (aT aB : Addr) (m : Int) (w : World) (hs : s.size < 4294967281) (S : Vs w aT aB m) (hmk : marked s.data.toList = true) (h3 : (coreOf s.data.toList).length = 3) (hp : hasPre s.data.toList = false) (hq : numsErr (coreOf s.data.toList) = 0) :
  Calls Tryz.prog 35 #[.string s] w fun e w'=>e = .returned (.tuple #[.agg #[.int .i64 (nAt s.data.toList 0),.int .i64 (nAt s.data.toList 1),.int .i64 (nAt s.data.toList 2),.slice none 0 0],.nilIface]) /\ Below w.heap.size w w':=by
 have HQ:=hid hq
 clear hq
 have HB0:=hid ((Below.refl w.heap.size w).alloc (Nat.le_refl _) (.cells #[.int .i64 0,.int .i64 0,.int .i64 0,.slice none 0 0] 66))
 have HS:=hid (S.below HB0.out)
 have hne1 : ¬ w.heap.size = 1:=by have:=lt_of_cell S.t; simp at this; omega
 have hne2 : ¬ 1 = w.heap.size:=fun h=>hne1 h.symm
 have HM:=hid hmk
 have H3:=hid h3
 have HP:=hid hp
 clear S hmk h3 hp
 go_enter Tryz.func35,Tryz.ntmps35
 go_wp2_with fail
 refine (cutPrefix_any s _).mono ?_
 rintro e w1 ⟨R,rfl,hR,rfl⟩
 rw [HM.out]
 have HR:=hid hR
 have hRs : R.size < 4294967281:=by
  have h1:=size_of hR
  have h2:=restOf_le s.data.toList
  simp at h2; omega
 clear hR
 go_wp2_with fail
 refine (cut_any R m _ hRs HS.out.ml).mono ?_
 rintro e w2 ⟨C,T,rfl,hC,hT,hb2⟩
 rw [show (one 45 R.data.toList).2.2 = false by rw [HR.out]; exact HP.out]
 have HC:=hid hC
 have HT:=hid hT
 have hCs : C.size < 4294967281:=by
  have h1:=size_of hC
  have h2:=(one_le 45 R.data.toList).1
  simp at h2; omega
 have hTs : T.size < 4294967281:=by
  have h1:=size_of hT
  have h2:=(one_le 45 R.data.toList).2
  simp at h2; omega
 have HB2:=hid (show Below (w.heap.size + 1) (w.alloc (.cells #[.int .i64 0,.int .i64 0,.int .i64 0,.slice none 0 0] 66)) w2 from hb2.mono (by simp))
 have HS2:=hid (HS.out.below hb2)
 clear hC hT hb2
 go_wp2_with fail
 refine (nums_any C aT aB m w2 hCs HS2.out).mono ?_
 rintro e w3 ⟨v,rfl,hown,hb3⟩
 have hCC : cutAt 46 C.data.toList = coreOf s.data.toList:=by rw [HC.out,HR.out]; rfl
 rw [hCC] at hown ⊢
 rw [H3.out,n_three H3.out] at hown
 have HB3:=hid (HB2.out.trans (hb3.mono (by have:=HB2.out.size; simpa using this)))
 have HS3:=hid (HS2.out.below hb3)
 have HZ:=hid (show w.heap.size + 1 <= w2.heap.size by have:=HB2.out.size; simpa using this)
 obtain ⟨_,⟨_,hn0⟩ | ⟨g9,cap,cur,hv,hg9,hblk,hcap,hcm,hcs,hct⟩⟩:=hown
 ·cases hn0
 subst hv
 have HK:=hid (show w3.cell? ⟨g9,0,none⟩ = some (.int .i64 (nAt s.data.toList 0)) /\ w3.cell? ⟨g9,1,none⟩ = some (.int .i64 (nAt s.data.toList 1)) /\ w3.cell? ⟨g9,2,none⟩ = some (.int .i64 (nAt s.data.toList 2)) from three_cells hblk hct)
 have HG:=hid hg9
 clear hg9 hblk hcap hcm hcs hct hb3 hCC
 rw [HQ.out,errV0]
 obtain ⟨⟨r0,r1,r2,r3⟩,rf,rz⟩:=res4 HB3.out
 have HBF:=hid (HB0.out.trans (HB3.out.mono (by omega)))
 obtain ⟨k0,k1,k2⟩:=HK.out
 have hg9 : ¬ g9 = w.heap.size:=by have h1:=HG.out; have h2:=HZ.out; omega
 have hg9' : ¬ w.heap.size = g9:=fun h=>hg9 h.symm
 generalize hn0 : nAt s.data.toList 0 = n0 at *
 generalize hn1 : nAt s.data.toList 1 = n1 at *
 generalize hn2 : nAt s.data.toList 2 = n2 at *
 have HN0:=hid hn0
 have HN1:=hid hn1
 have HN2:=hid hn2
 clear hn0 hn1 hn2
 go_wp2_with fail
 go_region
 all_goals (try go_wp2)
 all_goals
  refine bodyPost_ret (v:=.tuple #[.agg #[.int .i64 n0,.int .i64 n1,.int .i64 n2,.slice none 0 0],.nilIface]) (by simp [results,Tryz.results35,go_sem,r0,r1,r2,r3]) rfl ⟨by rw [HN0.out,HN1.out,HN2.out],?_⟩
  exact ((((HBF.out.setCell (Nat.le_refl _) _).setCell (Nat.le_refl _) _).setCell (Nat.le_refl _) _).setCell (Nat.le_refl _) _).drew
end Ve
end Go.Proofs.YtjbmjnbkibmkpaaGreatDoor


namespace Go.Proofs
open Go.Shelf
def Tryz.lays160_ren : Go.Shelf.Ren:=⟨fun | 160=>168 | 232=>215 | 231=>214 | 227=>216 | 234=>218 | 233=>217 | 236=>220 | 235=>219 | 228=>266 | 271=>268 | 151=>267 | 197=>159 | 120=>290 | 152=>289 | 260=>211 | 137=>298 | 119=>299 | 224=>155 | 225=>154 | 217=>153 | 266=>207 | n=>n,fun | 9=>9 | 4=>4 | 3=>3 | 5=>5 | 117=>241 | 116=>240 | 0=>0 | 124=>244 | 21=>21 | 105=>203 | 46=>167 | 119=>270 | 139=>273 | 138=>272 | n=>n,fun | 3=>10 | 4=>11 | n=>n⟩
theorem Tryz.lays160 : Go.Proofs.Lays.n160 Tryz.prog Tryz.lays160_ren:={
 mixed:=by kernel_rfl
 f119:=Tryz.func299.trans (congrArg some (by kernel_rfl))
 f120:=Tryz.func290.trans (congrArg some (by kernel_rfl))
 f137:=Tryz.func298.trans (congrArg some (by kernel_rfl))
 f151:=Tryz.func267.trans (congrArg some (by kernel_rfl))
 f152:=Tryz.func289.trans (congrArg some (by kernel_rfl))
 f160:=Tryz.func168.trans (congrArg some (by kernel_rfl))
 f197:=Tryz.func159.trans (congrArg some (by kernel_rfl))
 f217:=Tryz.func153.trans (congrArg some (by kernel_rfl))
 f224:=Tryz.func155.trans (congrArg some (by kernel_rfl))
 f225:=Tryz.func154.trans (congrArg some (by kernel_rfl))
 f227:=Tryz.func216.trans (congrArg some (by kernel_rfl))
 f228:=Tryz.func266.trans (congrArg some (by kernel_rfl))
 f231:=Tryz.func214.trans (congrArg some (by kernel_rfl))
 f232:=Tryz.func215.trans (congrArg some (by kernel_rfl))
 f233:=Tryz.func217.trans (congrArg some (by kernel_rfl))
 f234:=Tryz.func218.trans (congrArg some (by kernel_rfl))
 f235:=Tryz.func219.trans (congrArg some (by kernel_rfl))
 f236:=Tryz.func220.trans (congrArg some (by kernel_rfl))
 f260:=Tryz.func211.trans (congrArg some (by kernel_rfl))
 f266:=Tryz.func207.trans (congrArg some (by kernel_rfl))
 f271:=Tryz.func268.trans (congrArg some (by kernel_rfl))
 t0:=Tryz.underlying0
 a0:=Tryz.isAgg0
 z0:=Tryz.sizeOf0
 v0:=Tryz.zeroValue0
 t3:=Tryz.underlying3
 a3:=Tryz.isAgg3
 z3:=Tryz.sizeOf3
 v3:=Tryz.zeroValue3
 t4:=Tryz.underlying4
 a4:=Tryz.isAgg4
 z4:=Tryz.sizeOf4
 v4:=Tryz.zeroValue4
 t5:=Tryz.underlying5
 a5:=Tryz.isAgg5
 z5:=Tryz.sizeOf5
 v5:=Tryz.zeroValue5
 t9:=Tryz.underlying9
 a9:=Tryz.isAgg9
 z9:=Tryz.sizeOf9
 v9:=Tryz.zeroValue9
 t21:=Tryz.underlying21
 a21:=Tryz.isAgg21
 z21:=Tryz.sizeOf21
 v21:=Tryz.zeroValue21
 t46:=Tryz.underlying167
 a46:=Tryz.isAgg167
 z46:=Tryz.sizeOf167
 v46:=Tryz.zeroValue167
 t105:=Tryz.underlying203
 a105:=Tryz.isAgg203
 z105:=Tryz.sizeOf203
 v105:=Tryz.zeroValue203
 t116:=Tryz.underlying240
 a116:=Tryz.isAgg240
 z116:=Tryz.sizeOf240
 t117:=Tryz.underlying241
 a117:=Tryz.isAgg241
 z117:=Tryz.sizeOf241
 v117:=Tryz.zeroValue241
 t119:=Tryz.underlying270
 a119:=Tryz.isAgg270
 z119:=Tryz.sizeOf270
 t124:=Tryz.underlying244
 a124:=Tryz.isAgg244
 z124:=Tryz.sizeOf244
 v124:=Tryz.zeroValue244
 t138:=Tryz.underlying272
 a138:=Tryz.isAgg272
 z138:=Tryz.sizeOf272
 v138:=Tryz.zeroValue272
 t139:=Tryz.underlying273
 a139:=Tryz.isAgg273
 z139:=Tryz.sizeOf273
 v139:=Tryz.zeroValue273
 g3:=by kernel_rfl
 g4:=by kernel_rfl }
open Go.RowKit in
theorem Tryz.strings_Trim_one (s : ByteArray) (c : UInt8) (hc : c.toNat < 128) (w : World) (hs : s.size <= 9223372036854775807) :
  Calls Tryz.prog 168 #[.string s,.string ⟨#[c]⟩] w fun e w'=>e = .returned (.string ⟨(Lib.trimB s.data.toList c).toArray⟩) /\ (w' = w \/ w' = w.drew):=Any.strings_Trim_one Tryz.lays160 s c hc w hs
def Tryz.lays144_ren : Go.Shelf.Ren:=⟨fun | 144=>34 | 143=>60 | 219=>111 | 217=>153 | 225=>154 | 224=>155 | 267=>156 | 266=>207 | 314=>208 | n=>n,fun | 9=>9 | 4=>4 | 3=>3 | 5=>5 | 46=>167 | 146=>235 | 51=>221 | n=>n,fun | 1=>8 | n=>n⟩
theorem Tryz.lays144 : Go.Proofs.Lays.n144 Tryz.prog Tryz.lays144_ren:={
 mixed:=by kernel_rfl
 f143:=Tryz.func60.trans (congrArg some (by kernel_rfl))
 f144:=Tryz.func34.trans (congrArg some (by kernel_rfl))
 f217:=Tryz.func153.trans (congrArg some (by kernel_rfl))
 f219:=Tryz.func111.trans (congrArg some (by kernel_rfl))
 f224:=Tryz.func155.trans (congrArg some (by kernel_rfl))
 f225:=Tryz.func154.trans (congrArg some (by kernel_rfl))
 f266:=Tryz.func207.trans (congrArg some (by kernel_rfl))
 f267:=Tryz.func156.trans (congrArg some (by kernel_rfl))
 f314:=Tryz.func208.trans (congrArg some (by kernel_rfl))
 t3:=Tryz.underlying3
 a3:=Tryz.isAgg3
 z3:=Tryz.sizeOf3
 v3:=Tryz.zeroValue3
 t4:=Tryz.underlying4
 a4:=Tryz.isAgg4
 z4:=Tryz.sizeOf4
 v4:=Tryz.zeroValue4
 t5:=Tryz.underlying5
 a5:=Tryz.isAgg5
 z5:=Tryz.sizeOf5
 v5:=Tryz.zeroValue5
 t9:=Tryz.underlying9
 a9:=Tryz.isAgg9
 z9:=Tryz.sizeOf9
 v9:=Tryz.zeroValue9
 t46:=Tryz.underlying167
 a46:=Tryz.isAgg167
 z46:=Tryz.sizeOf167
 v46:=Tryz.zeroValue167
 t51:=Tryz.underlying221
 a51:=Tryz.isAgg221
 z51:=Tryz.sizeOf221
 v51:=Tryz.zeroValue221
 t146:=Tryz.underlying235
 a146:=Tryz.isAgg235
 z146:=Tryz.sizeOf235
 v146:=Tryz.zeroValue235
 g1:=by kernel_rfl }
open Go.RowKit Go.Lib in
theorem Tryz.strings_Contains (s sub : ByteArray) (m : Int) (w : World) (hs : s.size < 4294967281) (hm : w.cell? ⟨8,0,none⟩ = some (.int .i64 m)) :
  Calls Tryz.prog 34 #[.string s,.string sub] w fun e w'=>e = .returned (.bool (Lib.contains s.data.toList sub.data.toList)) /\ w' = w:=Any.strings_Contains Tryz.lays144 s sub m w hs hm
def Tryz.lays138_ren : Go.Shelf.Ren:=⟨fun | 138=>30 | 195=>58 | 218=>59 | 143=>60 | 219=>111 | 217=>153 | 225=>154 | 224=>155 | 267=>156 | 266=>207 | 314=>208 | n=>n,fun | 9=>9 | 3=>3 | 4=>4 | 5=>5 | 0=>0 | 46=>167 | 146=>235 | 51=>221 | n=>n,fun | 1=>8 | n=>n⟩
theorem Tryz.lays138 : Go.Proofs.Lays.n138 Tryz.prog Tryz.lays138_ren:={
 mixed:=by kernel_rfl
 f138:=Tryz.func30.trans (congrArg some (by kernel_rfl))
 f143:=Tryz.func60.trans (congrArg some (by kernel_rfl))
 f195:=Tryz.func58.trans (congrArg some (by kernel_rfl))
 f217:=Tryz.func153.trans (congrArg some (by kernel_rfl))
 f218:=Tryz.func59.trans (congrArg some (by kernel_rfl))
 f219:=Tryz.func111.trans (congrArg some (by kernel_rfl))
 f224:=Tryz.func155.trans (congrArg some (by kernel_rfl))
 f225:=Tryz.func154.trans (congrArg some (by kernel_rfl))
 f266:=Tryz.func207.trans (congrArg some (by kernel_rfl))
 f267:=Tryz.func156.trans (congrArg some (by kernel_rfl))
 f314:=Tryz.func208.trans (congrArg some (by kernel_rfl))
 t0:=Tryz.underlying0
 a0:=Tryz.isAgg0
 z0:=Tryz.sizeOf0
 v0:=Tryz.zeroValue0
 t3:=Tryz.underlying3
 a3:=Tryz.isAgg3
 z3:=Tryz.sizeOf3
 v3:=Tryz.zeroValue3
 t4:=Tryz.underlying4
 a4:=Tryz.isAgg4
 z4:=Tryz.sizeOf4
 v4:=Tryz.zeroValue4
 t5:=Tryz.underlying5
 a5:=Tryz.isAgg5
 z5:=Tryz.sizeOf5
 v5:=Tryz.zeroValue5
 t9:=Tryz.underlying9
 a9:=Tryz.isAgg9
 z9:=Tryz.sizeOf9
 v9:=Tryz.zeroValue9
 t46:=Tryz.underlying167
 a46:=Tryz.isAgg167
 z46:=Tryz.sizeOf167
 v46:=Tryz.zeroValue167
 t51:=Tryz.underlying221
 a51:=Tryz.isAgg221
 z51:=Tryz.sizeOf221
 v51:=Tryz.zeroValue221
 t146:=Tryz.underlying235
 a146:=Tryz.isAgg235
 z146:=Tryz.sizeOf235
 v146:=Tryz.zeroValue235
 g1:=by kernel_rfl }
open Go.RowKit Go.Lib in
theorem Tryz.strings_Count_one (s : ByteArray) (c : UInt8) (w : World) :
  Calls Tryz.prog 30 #[.string s,.string ⟨#[c]⟩] w fun e w'=>e = .returned (.int .i64 (Lib.countByte s.data.toList c)) /\ w' = w:=Any.strings_Count_one Tryz.lays138 s c w
def Tryz.lays101_ren : Go.Shelf.Ren:=⟨fun | 101=>170 | 208=>221 | 206=>161 | n=>n,fun | 9=>9 | 4=>4 | 3=>3 | n=>n,fun | n=>n⟩
theorem Tryz.lays101 : Go.Proofs.Lays.n101 Tryz.prog Tryz.lays101_ren:={
 mixed:=by kernel_rfl
 f101:=Tryz.func170.trans (congrArg some (by kernel_rfl))
 f206:=Tryz.func161.trans (congrArg some (by kernel_rfl))
 f208:=Tryz.func221.trans (congrArg some (by kernel_rfl))
 t3:=Tryz.underlying3
 a3:=Tryz.isAgg3
 z3:=Tryz.sizeOf3
 v3:=Tryz.zeroValue3
 t4:=Tryz.underlying4
 a4:=Tryz.isAgg4
 z4:=Tryz.sizeOf4
 v4:=Tryz.zeroValue4
 t9:=Tryz.underlying9
 a9:=Tryz.isAgg9
 z9:=Tryz.sizeOf9
 v9:=Tryz.zeroValue9 }
open Go.RowKit Go.Lib in
theorem Tryz.strings_TrimPrefix (s p : ByteArray) (w : World) :
  Calls Tryz.prog 170 #[.string s,.string p] w fun e w'=>e = .returned (.string ⟨(Lib.trimPrefix s.data.toList p.data.toList).toArray⟩) /\ w' = w:=Any.strings_TrimPrefix Tryz.lays101 s p w
end Go.Proofs


namespace Go.Proofs.YtjbmjnbkibmkpaaGreatDoor
open Go.RowKit
namespace Ve
def elB (c : Int) : Bool:=decide (97 <= c /\ c <= 122) || digB c || c == 46 || c == 45 || c == 95
def el (c : UInt8) : Bool:=elB (c.toNat : Int)
def allEl (l : List UInt8) : Bool:=l.all el
def elemOk (l : List UInt8) : Bool:=!(Lib.trimB l 46 == []) && (!Lib.contains l [46,46,46] && allEl l)
def long (l : List UInt8) : Bool:=decide (10 < l.length)
theorem inElem_any (c : Int) (w : World) (h0 : 0 <= c) (h1 : c <= 255) :
  Calls Tryz.prog 169 #[.int .u8 c] w fun e w'=>e = .returned (.bool (elB c)) /\ w' = w:=by
 have HP:=hid (show elB c = (decide (97 <= c /\ c <= 122) || digB c || c == 46 || c == 45 || c == 95) from rfl)
 have HC:=hid (isDigit_any c w h0 h1)
 have HS:=hid (small_any c w h0 h1)
 cases hs : decide (97 <= c /\ c <= 122)
 ·rw [hs] at HS HP
  clear hs
  cases hd : digB c
  ·rw [hd] at HC HP
   clear hd
   cases e1 : (c == 46)
   ·rw [e1] at HP
    cases e2 : (c == 45)
    ·rw [e2] at HP
     go_enter Tryz.func169,Tryz.ntmps169
     go_wp2_with fail
     refine HS.out.mono ?_
     rintro e w' ⟨rfl,rfl⟩
     go_wp2_with fail
     refine HC.out.mono ?_
     rintro e w' ⟨rfl,rfl⟩
     go_wp2_with fail
     go_ret
     exact ⟨ret_bool (by rw [HP.out]; rfl),rfl⟩
    ·rw [e2] at HP
     go_enter Tryz.func169,Tryz.ntmps169
     go_wp2_with fail
     refine HS.out.mono ?_
     rintro e w' ⟨rfl,rfl⟩
     go_wp2_with fail
     refine HC.out.mono ?_
     rintro e w' ⟨rfl,rfl⟩
     go_wp2_with fail
     go_ret
     exact ⟨ret_bool (by rw [HP.out]; rfl),rfl⟩
   ·rw [e1] at HP
    go_enter Tryz.func169,Tryz.ntmps169
    go_wp2_with fail
    refine HS.out.mono ?_
    rintro e w' ⟨rfl,rfl⟩
    go_wp2_with fail
    refine HC.out.mono ?_
    rintro e w' ⟨rfl,rfl⟩
    go_wp2_with fail
    go_ret
    exact ⟨ret_bool (by rw [HP.out]; rfl),rfl⟩
  ·rw [hd] at HC HP
   clear hd
   go_enter Tryz.func169,Tryz.ntmps169
   go_wp2_with fail
   refine HS.out.mono ?_
   rintro e w' ⟨rfl,rfl⟩
   go_wp2_with fail
   refine HC.out.mono ?_
   rintro e w' ⟨rfl,rfl⟩
   go_wp2_with fail
   go_ret
   exact ⟨ret_bool (by rw [HP.out]; rfl),rfl⟩
 ·rw [hs] at HS HP
  clear hs
  go_enter Tryz.func169,Tryz.ntmps169
  go_wp2_with fail
  refine HS.out.mono ?_
  rintro e w' ⟨rfl,rfl⟩
  go_wp2_with fail
  go_ret
  exact ⟨ret_bool (by rw [HP.out]; rfl),rfl⟩
set_option maxHeartbeats 400000 in
theorem every_el (s : ByteArray) (w : World) (hs : s.size <= maxLen) :
  Calls Tryz.prog 164 #[.string s,.func (.func 169) #[] #[]] w fun e w'=>e = .returned (.bool (allEl s.data.toList)) /\ w' = w:=by
 unfold maxLen at hs
 go_enter Tryz.func164,Tryz.ntmps164
 go_wp2_with fail
 go_loop [8] (fun i=>∃ k : Nat,k <= s.size /\ i = .int .i64 k /\ Hid ((s.data.toList.take k).all el = true)) (fun i=>s.size - (intOf i).toNat)
 case atStart=>exact ⟨0,Nat.zero_le _,rfl,hid rfl⟩
 case round=>
  obtain ⟨k,hk,rfl,HA⟩:=hrel
  by_cases hlt : k < s.size
  ·have HS:=hid (all_snoc el (s.data.toList.take k) s[k])
   rw [<- take_snoc s k hlt,HA.out,Bool.true_and] at HS
   cases hd : el s[k]
   ·rw [hd] at HS
    have HX:=hid (show allEl s.data.toList = false by
     have h2 : allEl s.data.toList = ((s.data.toList.take (k + 1)).all el && (s.data.toList.drop (k + 1)).all el):=by rw [<- List.all_append,List.take_append_drop]; rfl
     rw [h2,HS.out]; rfl)
    have HC:=hid (fun W=>inElem_any (s[k].toNat : Int) W (by omega) (by have:=s[k].toNat_lt; omega))
    have HD:=hid (show elB (s[k].toNat : Int) = false from hd)
    clear hd
    go_wp2_with fail
    refine (HC.out _).mono ?_
    rintro e w' ⟨rfl,rfl⟩
    rw [HD.out]
    go_wp2_with fail
    go_ret
    exact ⟨ret_bool HX.out.symm,rfl⟩
   ·rw [hd] at HS
    have HC:=hid (fun W=>inElem_any (s[k].toNat : Int) W (by omega) (by have:=s[k].toNat_lt; omega))
    have HD:=hid (show elB (s[k].toNat : Int) = true from hd)
    clear hd
    go_wp2_with fail
    refine (HC.out _).mono ?_
    rintro e w' ⟨rfl,rfl⟩
    rw [HD.out]
    go_wp2_with fail
    go_round
    case rel=>exact ⟨k + 1,by omega,by go_num,HS⟩
    case measure=>simp [intOf]; omega
  ·have HX:=hid (show allEl s.data.toList = true by
    have h2 : s.data.toList.take k = s.data.toList:=List.take_of_length_le (by simp; omega)
    have:=HA.out; rw [h2] at this; exact this)
   go_wp2_with fail
   go_ret
   exact ⟨ret_bool HX.out.symm,rfl⟩
theorem trim_any (s : ByteArray) (w : World) (hs : s.size <= maxLen) :
  Calls Tryz.prog 168 #[.string s,.string ⟨#[46]⟩] w fun e w'=>∃ T : ByteArray,e = .returned (.string T) /\ (T.toList == []) = (Lib.trimB s.data.toList 46 == []) /\ ∃ d,w' = w.drewN d:=
 (Tryz.strings_Trim_one s 46 (by decide) w (by unfold maxLen at hs; omega)).mono fun e w' ⟨h1,h2⟩=>⟨_,h1,by rw [ByteArray.toList_eq],by
  rcases h2 with h2 | h2
  ·exact ⟨0,h2⟩
  ·exact ⟨1,h2⟩⟩
set_option maxHeartbeats 1000000 in
theorem isElem_any (s : ByteArray) (m : Int) (w : World) (hs : s.size < 4294967281) (hm : w.cell? ⟨8,0,none⟩ = some (.int .i64 m)) :
  Calls Tryz.prog 120 #[.string s] w fun e w'=>e = .returned (.bool (elemOk s.data.toList)) /\ Below w.heap.size w w':=by
 have HO:=hid (show elemOk s.data.toList = (!(Lib.trimB s.data.toList 46 == []) && (!Lib.contains s.data.toList [46,46,46] && allEl s.data.toList)) from rfl)
 have HT:=hid (trim_any s w (by unfold maxLen; omega))
 have HC:=hid (fun (d : Nat)=>Tryz.strings_Contains s ⟨#[46,46,46]⟩ m (w.drewN d) hs hm)
 have HE:=hid (fun W=>every_el s W (by unfold maxLen; omega))
 rw [show (⟨#[46,46,46]⟩ : ByteArray).data.toList = [46,46,46] from rfl] at HC
 clear hm
 cases h1 : (Lib.trimB s.data.toList 46 == [])
 ·rw [h1] at HO HT
  clear h1
  cases h2 : Lib.contains s.data.toList [46,46,46]
  ·rw [h2] at HO HC
   clear h2
   go_enter Tryz.func120,Tryz.ntmps120
   go_wp2_with fail
   refine HT.out.mono ?_
   rintro e w1 ⟨T,rfl,hT,d,rfl⟩
   go_wp2_with fail
   refine (HC.out d).mono ?_
   rintro e w' ⟨rfl,hw⟩
   subst hw
   go_wp2_with fail
   refine (HE.out _).mono ?_
   rintro e w' ⟨rfl,hw⟩
   subst hw
   go_wp2_with fail
   go_ret
   exact ⟨ret_bool (by rw [HO.out]; rfl),below_drawn _ _⟩
  ·rw [h2] at HO HC
   clear h2
   go_enter Tryz.func120,Tryz.ntmps120
   go_wp2_with fail
   refine HT.out.mono ?_
   rintro e w1 ⟨T,rfl,hT,d,rfl⟩
   go_wp2_with fail
   refine (HC.out d).mono ?_
   rintro e w' ⟨rfl,hw⟩
   subst hw
   go_wp2_with fail
   go_ret
   exact ⟨ret_bool (by rw [HO.out]; rfl),below_drawn _ _⟩
 ·rw [h1] at HO HT
  clear h1
  go_enter Tryz.func120,Tryz.ntmps120
  go_wp2_with fail
  refine HT.out.mono ?_
  rintro e w1 ⟨T,rfl,hT,d,rfl⟩
  go_wp2_with fail
  go_ret
  exact ⟨ret_bool (by rw [HO.out]; rfl),below_drawn _ _⟩
theorem k1_any (s : ByteArray) (m : Int) (w : World) (hs : s.size < 4294967281) (hm : w.cell? ⟨8,0,none⟩ = some (.int .i64 m)) :
  Calls Tryz.prog 119 #[.string s] w fun e w'=>e = .returned (.bool (!elemOk s.data.toList)) /\ Below w.heap.size w w':=by
 have HE:=hid (isElem_any s m w hs hm)
 clear hm
 go_enter Tryz.func119,Tryz.ntmps119
 go_wp2_with fail
 refine HE.out.mono ?_
 rintro e w1 ⟨rfl,hb⟩
 have HB:=hid hb
 clear hb
 go_wp2_with fail
 go_ret
 exact ⟨rfl,HB.out⟩
theorem k2_any (s : ByteArray) (w : World) :
  Calls Tryz.prog 121 #[.string s] w fun e w'=>e = .returned (.bool (long s.data.toList)) /\ Below w.heap.size w w':=by
 have HL:=hid (show long s.data.toList = decide (10 < (s.size : Int)) by unfold long; rw [len_eq]; exact decide_eq_decide.2 (by omega))
 go_enter Tryz.func121,Tryz.ntmps121
 go_wp2_with fail
 go_ret
 exact ⟨ret_bool HL.out.symm,Below.refl _ _⟩
theorem any_step (f : List UInt8 -> Bool) (X : List ByteArray) (k : Nat) (h : k < X.length) : (bl (X.drop k)).any f = (f X[k].data.toList || (bl (X.drop (k + 1))).any f):=by
 rw [List.drop_eq_getElem_cons h]; rfl
set_option maxHeartbeats 1000000 in
theorem idx1 (b0 c0 : Nat) (X : List ByteArray) (m : Int) (w : World) (hX : X.length <= 4294967296) (hc0 : ∀ j (h : j < X.length),w.cell? ⟨b0,0 + j,none⟩ = some (.string X[j])) (hm : w.cell? ⟨8,0,none⟩ = some (.int .i64 m)) (hXs : ∀ x,x ∈ X -> x.size < 4294967281) :
  Calls Tryz.prog 167 #[.slice (some ⟨b0,0,none⟩) X.length c0,.func (.func 119) #[] #[]] w fun e w'=>∃ i : Int,e = .returned (.int .i64 i) /\ decide (0 <= i) = (bl X).any (fun l=>!elemOk l) /\ Below w.heap.size w w':=by
 have HC0:=hid hc0
 have HM:=hid hm
 have HXS:=hid hXs
 clear hm hXs
 clear hc0
 go_enter Tryz.func167,Tryz.ntmps167
 go_wp2_with fail
 go_loopw [8] (fun i wr=>∃ k : Nat,k <= X.length /\ i = .int .i64 k /\ Hid ((bl X).any (fun l=>!elemOk l) = (bl (X.drop k)).any (fun l=>!elemOk l)) /\ Hid (Below w.heap.size w wr)) (fun i _=>X.length - (intOf i).toNat)
 case atStart=>exact ⟨0,Nat.zero_le _,rfl,hid rfl,hid (Below.refl _ _)⟩
 case round=>
  obtain ⟨k,hk,rfl,HO,HB⟩:=hrel
  by_cases hlt : k < X.length
  ·have hx : wr.cell? ⟨b0,k,none⟩ = some (.string X[k]):=by
    have:=HC0.out k hlt
    rw [Nat.zero_add] at this
    exact cell_below HB.out this
   have HP:=hid (k1_any X[k] m wr (HXS.out _ (List.getElem_mem hlt)) (cell_below HB.out HM.out))
   have HN:=hid (HO.out.trans (any_step (fun l=>!elemOk l) X k hlt))
   generalize hq : (!elemOk X[k].data.toList) = q at *
   clear hq HO
   cases q
   ·go_wp2_with fail
    refine HP.out.mono ?_
    rintro e w1 ⟨rfl,hb1⟩
    have HB1:=hid (HB.out.trans (hb1.mono HB.out.size))
    clear hb1
    go_wp2_with fail
    go_roundw
    case rel=>exact ⟨k + 1,by omega,by go_num,hid (HN.out.trans (Bool.false_or _)),HB1⟩
    case measure=>simp [intOf]; omega
   ·go_wp2_with fail
    refine HP.out.mono ?_
    rintro e w1 ⟨rfl,hb1⟩
    have HB1:=hid (HB.out.trans (hb1.mono HB.out.size))
    clear hb1
    go_wp2_with fail
    go_ret
    exact ⟨k,rfl,by rw [HN.out,Bool.true_or]; exact decide_eq_true (by omega),HB1.out⟩
  ·have HE:=hid (show (bl (X.drop k)).any (fun l=>!elemOk l) = false by rw [List.drop_eq_nil_of_le (by omega)]; rfl)
   go_wp2_with fail
   go_ret
   exact ⟨-1,rfl,by rw [HO.out,HE.out]; rfl,HB.out⟩
theorem has1 (b0 c0 : Nat) (X : List ByteArray) (m : Int) (w : World) (hX : X.length <= 4294967296) (hc0 : ∀ j (h : j < X.length),w.cell? ⟨b0,0 + j,none⟩ = some (.string X[j])) (hm : w.cell? ⟨8,0,none⟩ = some (.int .i64 m)) (hXs : ∀ x,x ∈ X -> x.size < 4294967281) :
  Calls Tryz.prog 118 #[.slice (some ⟨b0,0,none⟩) X.length c0,.func (.func 119) #[] #[]] w fun e w'=>e = .returned (.bool ((bl X).any (fun l=>!elemOk l))) /\ Below w.heap.size w w':=by
 have HI:=hid (idx1 b0 c0 X m w hX hc0 hm hXs)
 clear hc0 hm hXs
 go_enter Tryz.func118,Tryz.ntmps118
 go_wp2_with fail
 refine HI.out.mono ?_
 rintro e w1 ⟨i,rfl,hi,hb⟩
 have HB:=hid hb
 have HQ:=hid hi
 clear hb hi
 go_wp2_with fail
 go_ret
 exact ⟨ret_bool HQ.out,HB.out⟩
set_option maxHeartbeats 1000000 in
theorem idx2 (b0 c0 : Nat) (X : List ByteArray) (w : World) (hX : X.length <= 4294967296) (hc0 : ∀ j (h : j < X.length),w.cell? ⟨b0,0 + j,none⟩ = some (.string X[j])) :
  Calls Tryz.prog 167 #[.slice (some ⟨b0,0,none⟩) X.length c0,.func (.func 121) #[] #[]] w fun e w'=>∃ i : Int,e = .returned (.int .i64 i) /\ decide (0 <= i) = (bl X).any long /\ Below w.heap.size w w':=by
 have HC0:=hid hc0
 clear hc0
 go_enter Tryz.func167,Tryz.ntmps167
 go_wp2_with fail
 go_loopw [8] (fun i wr=>∃ k : Nat,k <= X.length /\ i = .int .i64 k /\ Hid ((bl X).any long = (bl (X.drop k)).any long) /\ Hid (Below w.heap.size w wr)) (fun i _=>X.length - (intOf i).toNat)
 case atStart=>exact ⟨0,Nat.zero_le _,rfl,hid rfl,hid (Below.refl _ _)⟩
 case round=>
  obtain ⟨k,hk,rfl,HO,HB⟩:=hrel
  by_cases hlt : k < X.length
  ·have hx : wr.cell? ⟨b0,k,none⟩ = some (.string X[k]):=by
    have:=HC0.out k hlt
    rw [Nat.zero_add] at this
    exact cell_below HB.out this
   have HP:=hid (k2_any X[k] wr)
   have HN:=hid (HO.out.trans (any_step long X k hlt))
   generalize hq : long X[k].data.toList = q at *
   clear hq HO
   cases q
   ·go_wp2_with fail
    refine HP.out.mono ?_
    rintro e w1 ⟨rfl,hb1⟩
    have HB1:=hid (HB.out.trans (hb1.mono HB.out.size))
    clear hb1
    go_wp2_with fail
    go_roundw
    case rel=>exact ⟨k + 1,by omega,by go_num,hid (HN.out.trans (Bool.false_or _)),HB1⟩
    case measure=>simp [intOf]; omega
   ·go_wp2_with fail
    refine HP.out.mono ?_
    rintro e w1 ⟨rfl,hb1⟩
    have HB1:=hid (HB.out.trans (hb1.mono HB.out.size))
    clear hb1
    go_wp2_with fail
    go_ret
    exact ⟨k,rfl,by rw [HN.out,Bool.true_or]; exact decide_eq_true (by omega),HB1.out⟩
  ·have HE:=hid (show (bl (X.drop k)).any long = false by rw [List.drop_eq_nil_of_le (by omega)]; rfl)
   go_wp2_with fail
   go_ret
   exact ⟨-1,rfl,by rw [HO.out,HE.out]; rfl,HB.out⟩
theorem has2 (b0 c0 : Nat) (X : List ByteArray) (w : World) (hX : X.length <= 4294967296) (hc0 : ∀ j (h : j < X.length),w.cell? ⟨b0,0 + j,none⟩ = some (.string X[j])) :
  Calls Tryz.prog 118 #[.slice (some ⟨b0,0,none⟩) X.length c0,.func (.func 121) #[] #[]] w fun e w'=>e = .returned (.bool ((bl X).any long)) /\ Below w.heap.size w w':=by
 have HI:=hid (idx2 b0 c0 X w hX hc0)
 clear hc0
 go_enter Tryz.func118,Tryz.ntmps118
 go_wp2_with fail
 refine HI.out.mono ?_
 rintro e w1 ⟨i,rfl,hi,hb⟩
 have HB:=hid hb
 have HQ:=hid hi
 clear hb hi
 go_wp2_with fail
 go_ret
 exact ⟨ret_bool HQ.out,HB.out⟩
def likeB (l : List UInt8) : Bool:=marked l && digs (restOf l)
theorem like_any (s : ByteArray) (w : World) (hs : s.size < 4294967281) :
  Calls Tryz.prog 122 #[.string s] w fun e w'=>e = .returned (.bool (likeB s.data.toList)) /\ w' = w:=by
 have HL:=hid (show likeB s.data.toList = (marked s.data.toList && digs (restOf s.data.toList)) from rfl)
 have HC:=hid (cutPrefix_any s w)
 cases hm : marked s.data.toList
 ·rw [hm] at HC HL
  clear hm
  go_enter Tryz.func122,Tryz.ntmps122
  go_wp2_with fail
  refine HC.out.mono ?_
  rintro e w' ⟨R,rfl,hR,rfl⟩
  go_wp2_with fail
  go_ret
  exact ⟨ret_bool (by rw [HL.out]; rfl),rfl⟩
 ·rw [hm] at HC HL
  clear hm
  go_enter Tryz.func122,Tryz.ntmps122
  go_wp2_with fail
  refine HC.out.mono ?_
  rintro e w' ⟨R,rfl,hR,rfl⟩
  have HR:=hid hR
  have HZ:=hid (show R.size <= maxLen by
   have h1:=size_of hR
   have h2:=restOf_le s.data.toList
   simp at h2; unfold maxLen; omega)
  clear hR
  go_wp2_with fail
  refine (digits_any R _ HZ.out).mono ?_
  rintro e w' ⟨rfl,rfl⟩
  go_wp2_with fail
  go_ret
  exact ⟨ret_bool (by rw [HL.out,HR.out]; rfl),rfl⟩
end Ve
end Go.Proofs.YtjbmjnbkibmkpaaGreatDoor
