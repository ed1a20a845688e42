/-
  Code VerC VerD RefA RefE IdA RefG VerE
-/
import Derived.Test.YtlcffhadobhfkaaGreatDoorMq2
import Derived.Test.YtlcffhadobhfkaaGreatDoorMq5
import Derived.Test.YtlcffhadobhfkaaGreatDoorMq6
namespace Go.Proofs.YtlcffhadobhfkaaGreatDoor
open Go.RowKit Go.Extern.Stop Go.Stop Go.Extern
namespace Er
theorem hid {p : Prop} (h : p) : Hid p:=h
theorem lt_of_cell {w : World} {a : Addr} {v : Value} (h : w.cell? a = some v) : a.block < w.heap.size:=by
  rcases Nat.lt_or_ge a.block w.heap.size with hh | hh
  · exact hh
  · simp [World.cell?,Array.getElem?_eq_none hh] at h
structure Sen (w : World) (A : Nat -> Addr) : Prop where
  g0 : w.cell? ⟨3,0,none⟩ = some (.iface 319 (.pointer (some (A 0))))
  g1 : w.cell? ⟨4,0,none⟩ = some (.iface 319 (.pointer (some (A 1))))
  g2 : w.cell? ⟨2,0,none⟩ = some (.iface 319 (.pointer (some (A 2))))
  g3 : w.cell? ⟨5,0,none⟩ = some (.iface 319 (.pointer (some (A 3))))
  g4 : w.cell? ⟨0,0,none⟩ = some (.iface 319 (.pointer (some (A 4))))
  g5 : w.cell? ⟨6,0,none⟩ = some (.iface 319 (.pointer (some (A 5))))
  g6 : w.cell? ⟨7,0,none⟩ = some (.iface 319 (.pointer (some (A 6))))
  g7 : w.cell? ⟨1,0,none⟩ = some (.iface 319 (.pointer (some (A 7))))
  g8 : w.cell? ⟨8,0,none⟩ = some (.iface 319 (.pointer (some (A 8))))
  g9 : w.cell? ⟨9,0,none⟩ = some (.iface 319 (.pointer (some (A 9))))
  et : w.cell? ⟨10,0,none⟩ = some (.iface 205 (.agg #[.pointer (some ⟨17,32,none⟩)]))
  blk : ∀ k,k < 10 -> ∃ c t,w.heap[(A k).block]? = some (.cells c t (0,0))
  inj : ∀ i j,i < 10 -> j < 10 -> i ≠ j -> A i ≠ A j
theorem Sen.below {w w' : World} {A : Nat -> Addr} (h : Sen w A) (hb : Below w.heap.size w w') : Sen w' A:=by
  refine ⟨?_,?_,?_,?_,?_,?_,?_,?_,?_,?_,?_,?_,h.inj⟩
  · rw [hb.cell (lt_of_cell h.g0)]; exact h.g0
  · rw [hb.cell (lt_of_cell h.g1)]; exact h.g1
  · rw [hb.cell (lt_of_cell h.g2)]; exact h.g2
  · rw [hb.cell (lt_of_cell h.g3)]; exact h.g3
  · rw [hb.cell (lt_of_cell h.g4)]; exact h.g4
  · rw [hb.cell (lt_of_cell h.g5)]; exact h.g5
  · rw [hb.cell (lt_of_cell h.g6)]; exact h.g6
  · rw [hb.cell (lt_of_cell h.g7)]; exact h.g7
  · rw [hb.cell (lt_of_cell h.g8)]; exact h.g8
  · rw [hb.cell (lt_of_cell h.g9)]; exact h.g9
  · rw [hb.cell (lt_of_cell h.et)]; exact h.et
  · intro k hk
    obtain ⟨c,t,e⟩:=h.blk k hk
    have hlt : (A k).block < w.heap.size:=by
      rcases Nat.lt_or_ge (A k).block w.heap.size with hh | hh
      · exact hh
      · rw [Array.getElem?_eq_none hh] at e; cases e
    exact ⟨c,t,by rw [hb.block _ hlt]; exact e⟩
theorem as_miss_b (e t : Addr) (w : World) (hg : w.cell? ⟨10,0,none⟩ = some (.iface 205 (.agg #[.pointer (some ⟨17,32,none⟩)]))) :
    Calls Tryz.prog 111 #[.iface 319 (.pointer (some e)),.iface 127 (.pointer (some t))] w fun ev w'=>ev = .returned (.bool false) /\ Below w.heap.size w w':=
  (as_miss e t w hg).mono fun _ _ ⟨h1,h2⟩=>⟨h1,by
    rw [h2]
    exact (((Below.refl _ _).alloc (Nat.le_refl _) _).alloc (by simp) _).alloc (by simp; omega) _⟩
theorem as_hit_b (e t : Addr) (old : Value) (w : World) (B : Nat) (hB : B <= t.block) (hg : w.cell? ⟨10,0,none⟩ = some (.iface 205 (.agg #[.pointer (some ⟨17,32,none⟩)]))) (ht0 : w.cell? t = some old) (hf0 : w.frozen? t = false) (htb : t.block < w.heap.size) :
    Calls Tryz.prog 111 #[.iface 125 (.pointer (some e)),.iface 127 (.pointer (some t))] w fun ev w'=>ev = .returned (.bool true) /\ Below B w w' /\ w'.cell? t = some (.pointer (some e)):=
  (as_hit e t old w hg ht0 hf0).mono fun _ _ ⟨h1,h2⟩=>⟨h1,by
    rw [h2]
    exact (((((Below.refl _ _).alloc (by omega) _).alloc (by simp; omega) _).alloc (by simp; omega) _).alloc (by simp; omega) _).setCell hB _,by
    rw [h2,World.cell?_setCell_same (u:=old)]
    rw [World.cell?_alloc_lt _ _ t (by simp; omega),World.cell?_alloc_lt _ _ t (by simp; omega),World.cell?_alloc_lt _ _ t (by simp; omega),World.cell?_alloc_lt _ _ t htb]; exact ht0⟩
end Er
end Go.Proofs.YtlcffhadobhfkaaGreatDoor
namespace Go.Proofs.YtlcffhadobhfkaaGreatDoor
open Go.RowKit
namespace Ve
set_option maxHeartbeats 1000000 in
theorem pre_some (b o c : Nat) (xs : List ByteArray) (aT aB : Addr) (m : Int) (w : World) (S : Vs w aT aB m) (hn : xs.length <= 140737488355328) (hx : ∀ x,x ∈ xs -> x.size <= maxLen)
    (hc : ∀ j (h : j < xs.length),w.cell? ⟨b,o + j,none⟩ = some (.string xs[j])) :
    Calls Tryz.prog 167 #[.slice (some ⟨b,o,none⟩) xs.length c] w fun e w'=>e = .returned (errV aT aB (pre (bl xs))) /\ Below w.heap.size w w':=by
  have HP:=hid (show pre (bl xs) = preTo (if 5 < xs.length then 2 else 0) (bl xs) by unfold pre; rw [bl_len])
  have HS:=hid S
  have HC:=hid hc
  have HX:=hid hx
  have g:=S.b
  clear S hc hx
  by_cases h5 : 5 < xs.length
  · rw [if_pos h5] at HP
    have h5b : decide (5 < (xs.length : Int)) = true:=by simp; omega
    go_enter Tryz.func167,Tryz.ntmps167
    go_wp2_with fail
    clear g
    go_loopw [3,12] (fun bad i wr=>∃ k : Nat,k <= xs.length /\ i = .int .i64 k /\ bad = errV aT aB (preTo 2 (bl (xs.take k))) /\ Below w.heap.size w wr) (fun _ i _=>xs.length - (intOf i).toNat)
    case atStart=>exact ⟨0,Nat.zero_le _,rfl,rfl,Below.refl _ _⟩
    case round=>
      obtain ⟨k,hk,rfl,rfl,hb⟩:=hrel
      have HB:=hid hb
      clear hb
      by_cases hlt : k < xs.length
      · have hcell : wr.cell? ⟨b,o + k,none⟩ = some (.string xs[k]):=cell_below HB.out (HC.out k hlt)
        have HSN:=hid (preTo_snoc 2 (bl (xs.take k)) xs[k].data.toList)
        rw [<- bl_take_snoc xs k hlt] at HSN
        have HE:=hid (preTo_err 2 (bl (xs.take k)) (by simp))
        have HXK:=hid (HX.out xs[k] (List.getElem_mem hlt))
        generalize hq : preTo 2 (bl (xs.take k)) = q at *
        clear hq
        go_wp2_with fail
        refine (part_any xs[k] aT aB m wr HXK.out (HS.out.below HB.out)).mono ?_
        rintro e w1 ⟨rfl,hb1⟩
        have HB1:=hid (HB.out.trans (hb1.mono HB.out.size))
        clear hb1
        have HPE:=hid (part_err xs[k].data.toList)
        go_wp2_with fail
        refine (worse_any q _ aT aB m w1 (HS.out.below HB1.out) HE.out HPE.out).mono ?_
        rintro e w' ⟨rfl,rfl⟩
        rw [<- HSN.out]
        go_wp2_with fail
        go_roundw
        case rel=>exact ⟨k + 1,by omega,by go_num,rfl,HB1.out⟩
        case measure=>simp [intOf]; omega
      · have hkk : xs.take k = xs:=List.take_of_length_le (by omega)
        rw [hkk,<- HP.out]
        clear hkk
        go_wp2_with fail
        go_ret
        exact ⟨rfl,HB.out⟩
  · rw [if_neg h5] at HP
    have h5b : decide (5 < (xs.length : Int)) = false:=by simp; omega
    go_enter Tryz.func167,Tryz.ntmps167
    go_wp2_with fail
    clear g
    go_loopw [3,12] (fun bad i wr=>∃ k : Nat,k <= xs.length /\ i = .int .i64 k /\ bad = errV aT aB (preTo 0 (bl (xs.take k))) /\ Below w.heap.size w wr) (fun _ i _=>xs.length - (intOf i).toNat)
    case atStart=>exact ⟨0,Nat.zero_le _,rfl,rfl,Below.refl _ _⟩
    case round=>
      obtain ⟨k,hk,rfl,rfl,hb⟩:=hrel
      have HB:=hid hb
      clear hb
      by_cases hlt : k < xs.length
      · have hcell : wr.cell? ⟨b,o + k,none⟩ = some (.string xs[k]):=cell_below HB.out (HC.out k hlt)
        have HSN:=hid (preTo_snoc 0 (bl (xs.take k)) xs[k].data.toList)
        rw [<- bl_take_snoc xs k hlt] at HSN
        have HE:=hid (preTo_err 0 (bl (xs.take k)) (by simp))
        have HXK:=hid (HX.out xs[k] (List.getElem_mem hlt))
        generalize hq : preTo 0 (bl (xs.take k)) = q at *
        clear hq
        go_wp2_with fail
        refine (part_any xs[k] aT aB m wr HXK.out (HS.out.below HB.out)).mono ?_
        rintro e w1 ⟨rfl,hb1⟩
        have HB1:=hid (HB.out.trans (hb1.mono HB.out.size))
        clear hb1
        have HPE:=hid (part_err xs[k].data.toList)
        go_wp2_with fail
        refine (worse_any q _ aT aB m w1 (HS.out.below HB1.out) HE.out HPE.out).mono ?_
        rintro e w' ⟨rfl,rfl⟩
        rw [<- HSN.out]
        go_wp2_with fail
        go_roundw
        case rel=>exact ⟨k + 1,by omega,by go_num,rfl,HB1.out⟩
        case measure=>simp [intOf]; omega
      · have hkk : xs.take k = xs:=List.take_of_length_le (by omega)
        rw [hkk,<- HP.out]
        clear hkk
        go_wp2_with fail
        go_ret
        exact ⟨rfl,HB.out⟩
theorem split_any (c : UInt8) (s : ByteArray) (m : Int) (w : World) (hs : s.size < 4294967281) (hm : w.cell? ⟨11,0,none⟩ = some (.int .i64 m)) :
    Calls Tryz.prog 165 #[.string s,.string ⟨#[c]⟩] w fun e w'=>∃ X : List ByteArray,e = .returned (.slice (some ⟨w.heap.size,0,none⟩) X.length X.length) /\ bl X = cutAt c s.data.toList /\
      (∀ j (h : j < X.length),w'.cell? ⟨w.heap.size,0 + j,none⟩ = some (.string X[j])) /\ Below w.heap.size w w' /\ w.heap.size < w'.heap.size:=by
  refine (Tryz.strings_Split s ⟨#[c]⟩ m w hs hm (Nat.le_refl 1)).mono fun e w' ⟨h1,h2⟩=>?_
  have hlen:=Lib.splitB_all ⟨#[c]⟩ (Nat.le_refl 1) 0 _ s rfl
  refine ⟨Lib.splitB ⟨#[c]⟩ 0 (Lib.countB s ⟨#[c]⟩) s,?_,bl_split c s,?_,?_,?_⟩
  · rw [h1,hlen]
  · intro j hj
    rw [h2,World.cell?_alloc_at _ _ _ _ rfl]
    simp [hj]
  · rw [h2]; exact (Below.refl _ _).alloc (Nat.le_refl _) _
  · rw [h2]; simp
theorem piece_le {c : UInt8} {s x : ByteArray} {X : List ByteArray} (hX : bl X = cutAt c s.data.toList) (hx : x ∈ X) : x.size <= s.size:=by
  have:=cutAt_le c s.data.toList _ (hX ▸ bl_mem hx)
  simpa using this
theorem many_le {c : UInt8} {s : ByteArray} {X : List ByteArray} (hX : bl X = cutAt c s.data.toList) : X.length <= s.size + 1:=by
  have:=cutAt_many c s.data.toList
  rw [<- hX,bl_len] at this
  simpa using this
theorem infoInt : (Tryz.prog.info? 3).map (fun i=>(i.zero,i.size,i.bytes)) = some (some (.int .i64 0),1,8):=by kernel_rfl
theorem owns_below {w w' : World} {base : Nat} {e : TypeId} {size : Nat} {v : Value} {n : Nat} {xs : List Value} (h : w.ownsRow base e size v n xs) (hb : Below w.heap.size w w') : w'.ownsRow base e size v n xs:=by
  obtain ⟨hl,h | ⟨g,cap,cur,e1,e2,e3,e4,e5,e6,e7⟩⟩:=h
  · exact ⟨hl,Or.inl h⟩
  · exact ⟨hl,Or.inr ⟨g,cap,cur,e1,e2,by rw [hb.block _ (lt_of_blk e3)]; exact e3,e4,e5,e6,e7⟩⟩
theorem rel_app {B : Nat} {w wr w2 w3 : World} {e : TypeId} {v : Value} {n : Nat} {xs : List Value} {o : Obj} (hB : B <= wr.heap.size) (hb : Below B w wr) (hown : wr.ownsRow B e 1 v n xs) (hb2 : Below wr.heap.size wr w2)
    (hg : (w2.alloc o).grownBy w3 v.ownBlock) : Below B w w3:=by
  have h2 : Below B w w2:=hb.trans (hb2.mono hB)
  have h3 : Below B w (w2.alloc o):=h2.alloc (Nat.le_trans hB hb2.size) o
  exact h3.grown hg (by simp; exact Nat.le_succ_of_le (Nat.le_trans hB hb2.size)) (fun k hk=>(hown.lt k hk).1)
set_option maxHeartbeats 1000000 in
theorem nums_any (s : ByteArray) (aT aB : Addr) (m : Int) (w : World) (hs : s.size < 4294967281) (S : Vs w aT aB m) :
    Calls Tryz.prog 164 #[.string s] w fun e w'=>∃ v,e = .returned (.tuple #[v,errV aT aB (numsErr (cutAt 46 s.data.toList))]) /\
      w'.ownsRow w.heap.size 3 1 v (cutAt 46 s.data.toList).length ((numsOf (cutAt 46 s.data.toList)).map (Value.int .i64)) /\ Below w.heap.size w w':=by
  obtain ⟨i0,hi,hz0,hz1,hz2⟩:=info_parts infoInt
  have HS:=hid S
  clear S
  go_enter Tryz.func164,Tryz.ntmps164
  go_wp2_with fail
  refine (split_any 46 s m w hs HS.out.ml).mono ?_
  rintro e w1 ⟨X,rfl,hX,hc,hb,hz⟩
  have HX:=hid hX
  have HC:=hid hc
  have HB:=hid hb
  have hn:=many_le hX
  clear hX hc hb
  go_wp2_with fail
  go_loopw [4,5,13] (fun v bad i wr=>∃ k : Nat,k <= X.length /\ i = .int .i64 k /\ bad = errV aT aB (numsErr (bl (X.take k))) /\
      wr.ownsRow w1.heap.size 3 1 v k ((numsOf (bl (X.take k))).map (Value.int .i64)) /\ Below w1.heap.size w1 wr) (fun _ _ i _=>X.length - (intOf i).toNat)
  case atStart=>exact ⟨0,Nat.zero_le _,rfl,rfl,World.ownsRow_nil _ _ _ _,Below.refl _ _⟩
  case round=>
    obtain ⟨k,hk,rfl,rfl,hown,hbr⟩:=hrel
    have HO:=hid hown
    have HBR:=hid hbr
    clear hown hbr
    have hz2':=HBR.out.size
    by_cases hlt : k < X.length
    · have hcell : wr.cell? ⟨w.heap.size,k,none⟩ = some (.string X[k]):=by
        have:=HC.out k hlt
        rw [Nat.zero_add] at this
        exact cell_below HBR.out this
      have HE:=hid (numsErr_err (bl (X.take k)))
      have HSN:=hid (numsErr_snoc (bl (X.take k)) X[k].data.toList)
      have HON:=hid (numsOf_snoc (bl (X.take k)) X[k].data.toList)
      rw [<- bl_take_snoc X k hlt] at HSN HON
      have HXK:=hid (show X[k].size <= maxLen by have:=piece_le HX.out (List.getElem_mem hlt); unfold maxLen; omega)
      have HW:=hid (HB.out.trans (HBR.out.mono HB.out.size))
      generalize hq : numsErr (bl (X.take k)) = q at *
      generalize hq2 : numsOf (bl (X.take k)) = q2 at *
      clear hq hq2
      go_wp2_with fail
      refine (num_any X[k] aT aB m wr HXK.out (HS.out.below HW.out)).mono ?_
      rintro e w2 ⟨rfl,hb2⟩
      have HB2:=hid hb2
      have HPE:=hid (num_err X[k].data.toList)
      have hz3:=hb2.size
      clear hb2
      go_wp2_with fail
      refine (worse_any q _ aT aB m w2 (HS.out.below (HW.out.trans (HB2.out.mono HW.out.size))) HE.out HPE.out).mono ?_
      rintro e w' ⟨rfl,rfl⟩
      rw [<- HSN.out]
      go_wp2_with (at_builtin; refine wpList_append_own _ rfl _ _ 90 rfl w1.heap.size 3 i0 (.int .i64 0) 1 8 Tryz.underlying90 hi hz0 hz1 hz2 rfl (by decide) _ _ _ rfl ((owns_below HO.out HB2.out).alloc _) ⟨w'.heap.size,0,none⟩ 1 1 [.int .i64 (num X[k].data.toList).1] rfl rfl ?c1 ?c2 ?c3 ?c4 ?c5 ?_)
      case c1=>
        intro j u hj
        match j,hj with
        | 0,hj=>simp at hj; subst hj; simp [Addr.add]
      case c2=>intro u hu; simp at hu; subst hu; rfl
      case c3=>unfold maxLen; omega
      case c4=>omega
      case c5=>simp; omega
      intro v' w3 hown' hgrow _
      have HR:=hid (rel_app hz2' HBR.out HO.out HB2.out hgrow)
      have HO':=hid hown'
      clear hown' hgrow
      go_wp2_with fail
      go_roundw
      case rel=>exact ⟨k + 1,by omega,by go_num,rfl,by rw [HON.out]; simpa using HO'.out,HR.out⟩
      case measure=>simp [intOf]; omega
    · have hkk : X.take k = X:=List.take_of_length_le (by omega)
      have hkl : k = X.length:=by omega
      rw [hkk] at HO ⊢
      subst hkl
      have HL:=hid (show (cutAt 46 s.data.toList).length = X.length by rw [<- HX.out,bl_len])
      have HF:=hid (HB.out.trans (HBR.out.mono HB.out.size))
      clear hkk
      go_wp2_with fail
      go_ret2
      exact ⟨_,by rw [HX.out]; rfl,by rw [HL.out,<- HX.out]; exact HO.out.mono HB.out.size,HF.out⟩
def valTo (n : Int) (l : List UInt8) : Int:=l.foldl (fun n c=>10 * n + ((c.toNat : Int) - 48)) n
theorem valTo_snoc (n : Int) (l : List UInt8) (c : UInt8) : valTo n (l ++ [c]) = 10 * valTo n l + ((c.toNat : Int) - 48):=by simp [valTo,List.foldl_append]
theorem dig_bd {c : UInt8} (h : dig c = true) : 48 <= (c.toNat : Int) /\ (c.toNat : Int) <= 57:=by simpa [dig,digB] using h
theorem valTo_bd : ∀ (l : List UInt8) (n : Int),l.all dig = true -> 0 <= n -> n * 10 ^ l.length <= valTo n l /\ valTo n l < (n + 1) * 10 ^ l.length:=by
  intro l
  induction l with
  | nil=>intro n _ h; simp [valTo]; omega
  | cons c r ih=>
    intro n ha h0
    simp only [List.all_cons,Bool.and_eq_true] at ha
    have hc:=dig_bd ha.1
    have:=ih (10 * n + ((c.toNat : Int) - 48)) ha.2 (by omega)
    show n * 10 ^ (r.length + 1) <= valTo (10 * n + ((c.toNat : Int) - 48)) r /\ valTo (10 * n + ((c.toNat : Int) - 48)) r < (n + 1) * 10 ^ (r.length + 1)
    have hp : (0 : Int) < 10 ^ r.length:=Int.pow_pos (by decide)
    have e1 : n * 10 ^ (r.length + 1) = (10 * n) * 10 ^ r.length:=by rw [Int.pow_succ]; rw [Int.mul_comm (10 ^ r.length) 10,<- Int.mul_assoc,Int.mul_comm n 10]
    have e2 : (n + 1) * 10 ^ (r.length + 1) = (10 * (n + 1)) * 10 ^ r.length:=by rw [Int.pow_succ]; rw [Int.mul_comm (10 ^ r.length) 10,<- Int.mul_assoc,Int.mul_comm (n + 1) 10]
    rw [e1,e2]
    constructor
    · exact Int.le_trans (Int.mul_le_mul_of_nonneg_right (by omega) (Int.le_of_lt hp)) this.1
    · exact Int.lt_of_lt_of_le this.2 (Int.mul_le_mul_of_nonneg_right (by omega) (Int.le_of_lt hp))
theorem numTo_val : ∀ (l : List UInt8) (n : Int),l.all dig = true -> 0 <= n -> numTo (min n 1000000) l = min (valTo n l) 1000000:=by
  intro l
  induction l with
  | nil=>intro n _ _; rfl
  | cons c r ih=>
    intro n ha h0
    simp only [List.all_cons,Bool.and_eq_true] at ha
    have hc:=dig_bd ha.1
    have:=ih (10 * n + ((c.toNat : Int) - 48)) ha.2 (by omega)
    show numTo (min (min n 1000000 * 10 + ((c.toNat : Int) - 48)) 1000000) r = min (valTo (10 * n + ((c.toNat : Int) - 48)) r) 1000000
    rw [<- this]
    congr 1
    omega
theorem num_six (l : List UInt8) (h : digs l = true) (h0 : zero l = false) : num l = if 6 < l.length then (0,2) else (valTo 0 l,0):=by
  have had : l.all dig = true:=by unfold digs at h; simp at h; exact h.2
  have hpos : 0 < l.length:=by unfold digs at h; simp at h; exact h.1
  have e:=numTo_val l 0 had (by omega)
  rw [show min (0 : Int) 1000000 = 0 by omega] at e
  have hb:=valTo_bd l 0 had (by omega)
  unfold num
  rw [h,h0,e]
  simp only [Bool.not_true,Bool.or_false,Bool.false_eq_true,if_false]
  by_cases h6 : 6 < l.length
  · rw [if_pos h6]
    have hbig : 999999 < valTo 0 l:=by
      cases l with
      | nil=>simp at hpos
      | cons c r=>
        simp only [List.all_cons,Bool.and_eq_true] at had
        have hc:=dig_bd had.1
        have hc48 : (c.toNat : Int) ≠ 48:=by
          intro hh
          have : c = 48:=by apply UInt8.toNat_inj.1; show c.toNat = 48; omega
          subst this
          simp [zero] at h0
          have : r.length + 1 > 6:=h6
          have h7 : r ≠ []:=by intro hr; subst hr; simp at this
          exact h7 h0
        have hv:=(valTo_bd r (10 * 0 + ((c.toNat : Int) - 48)) had.2 (by omega)).1
        have hr : 6 <= r.length:=by simp at h6; omega
        have hp : (1000000 : Int) <= 10 ^ r.length:=by
          have:=Nat.pow_le_pow_right (n:=10) (by omega) hr
          have h8 : ((10 ^ 6 : Nat) : Int) <= ((10 ^ r.length : Nat) : Int):=by exact_mod_cast this
          simpa using h8
        have h9 : (10 : Int) ^ r.length <= (10 * 0 + ((c.toNat : Int) - 48)) * 10 ^ r.length:=by
          have:=Int.mul_le_mul_of_nonneg_right (a:=1) (b:=10 * 0 + ((c.toNat : Int) - 48)) (c:=10 ^ r.length) (by omega) (by omega)
          simpa using this
        show 999999 < valTo (10 * 0 + ((c.toNat : Int) - 48)) r
        omega
    rw [if_neg (by omega)]
  · rw [if_neg h6]
    have hp : (10 : Int) ^ l.length <= 1000000:=by
      have:=Nat.pow_le_pow_right (n:=10) (by omega) (show l.length <= 6 by omega)
      have h8 : ((10 ^ l.length : Nat) : Int) <= ((10 ^ 6 : Nat) : Int):=by exact_mod_cast this
      simpa using h8
    have : valTo 0 l < 1000000:=by have:=hb.2; simp at this; omega
    rw [if_pos (by omega),show min (valTo 0 l) 1000000 = valTo 0 l by omega]
theorem val_le (l : List UInt8) (h : l.all dig = true) (h6 : l.length <= 6) : 0 <= valTo 0 l /\ valTo 0 l < 1000000:=by
  have hb:=valTo_bd l 0 h (by omega)
  have hp : (10 : Int) ^ l.length <= 1000000:=by
    have:=Nat.pow_le_pow_right (n:=10) (by omega) h6
    have h8 : ((10 ^ l.length : Nat) : Int) <= ((10 ^ 6 : Nat) : Int):=by exact_mod_cast this
    simpa using h8
  have h1:=hb.1
  have h2:=hb.2
  simp at h1 h2
  omega
theorem str_ext {a b : ByteArray} (h : a.data.toList = b.data.toList) : a = b:=by
  cases a; cases b; congr 1; exact Array.toList_inj.1 h
theorem str_ne {a b : ByteArray} (h : ¬ a = b) : (a.toList == b.toList) = false:=by
  rw [beq_eq_false_iff_ne,ByteArray.toList_eq,ByteArray.toList_eq]
  intro e; exact h (str_ext e)
def worst (b : Nat) (cs : List Nat) : Nat:=if b = 1 \/ 1 ∈ cs then 1 else if b = 2 \/ 2 ∈ cs then 2 else 0
theorem worst_fold {α : Type} (f : α -> Nat) (hf : ∀ x,f x = 0 \/ f x = 1 \/ f x = 2) : ∀ (ps : List α) (b : Nat),(b = 0 \/ b = 1 \/ b = 2) -> ps.foldl (fun b p=>worse b (f p)) b = worst b (ps.map f):=by
  intro ps
  induction ps with
  | nil=>
    intro b hb
    rcases hb with rfl | rfl | rfl <;> simp [worst]
  | cons p r ih=>
    intro b hb
    rw [List.foldl_cons,ih _ (worse_err hb (hf p))]
    rcases hb with rfl | rfl | rfl <;> rcases hf p with h | h | h <;> simp [worst,worse,h]
theorem numsErr_worst (ps : List (List UInt8)) : numsErr ps = worst 0 (ps.map fun p=>(num p).2):=worst_fold _ num_err ps 0 (Or.inl rfl)
theorem nx_idx {t n : Nat} (h : t < n) (h2 : n <= 1000000) : Value.int .i64 (wrap64 ((t : Int) + 1)) = .int .i64 ((t + 1 : Nat) : Int):=by
  rw [IntWalk.wrap64_in _ (by omega)]; rfl
theorem nx_meas {t n : Nat} (h : t < n) (h2 : n <= 1000000) : n - (intOf (Value.int .i64 (wrap64 ((t : Int) + 1)))).toNat < n - (intOf (Value.int .i64 (t : Int))).toNat:=by
  rw [IntWalk.wrap64_in _ (by omega)]
  show n - ((t : Int) + 1).toNat < n - ((t : Int)).toNat
  omega
theorem nr_idx (t : Nat) : Value.int .i64 ((t : Int) + 1) = .int .i64 ((t + 1 : Nat) : Int):=rfl
theorem nr_meas {t n : Nat} (h : t < n) : n - (intOf (Value.int .i64 ((t : Int) + 1))).toNat < n - (intOf (Value.int .i64 (t : Int))).toNat:=by
  show n - ((t : Int) + 1).toNat < n - ((t : Int)).toNat
  omega
def ncode (p : List UInt8) : Nat:=(num p).2
theorem numsErr_ncode (ps : List (List UInt8)) : numsErr ps = worst 0 (ps.map ncode):=numsErr_worst ps
def marked (l : List UInt8) : Bool:=l.headD 0 == 118
def restOf (l : List UInt8) : List UInt8:=if marked l then l.drop 1 else l
theorem hasPrefix_v (l : List UInt8) : Lib.hasPrefix l [118] = marked l:=by
  cases l with
  | nil=>rfl
  | cons b l=>
    show ([118] : List UInt8).isPrefixOf (b :: l) = (b == 118)
    simp only [List.isPrefixOf,Bool.and_true]
    exact Bool.beq_comm
theorem trimPrefix_v (l : List UInt8) : Lib.trimPrefix l [118] = restOf l:=by
  unfold Lib.trimPrefix restOf
  rw [hasPrefix_v]; rfl
theorem restOf_le (l : List UInt8) : (restOf l).length <= l.length:=by unfold restOf; split <;> simp
def coreOf (l : List UInt8) : List (List UInt8):=cutAt 46 (one 45 (restOf l)).1
def hasPre (l : List UInt8) : Bool:=(one 45 (restOf l)).2.2
def preOf (l : List UInt8) : List (List UInt8):=if hasPre l then cutAt 46 (one 45 (restOf l)).2.1 else []
def verErr (l : List UInt8) : Nat:=
  if marked l = false \/ (coreOf l).length ≠ 3 then 1
  else if hasPre l then worse (numsErr (coreOf l)) (pre (preOf l)) else numsErr (coreOf l)
theorem cutPrefix_any (s : ByteArray) (w : World) :
    Calls Tryz.prog 162 #[.string s,.string ⟨#[118]⟩] w fun e w'=>∃ R : ByteArray,e = .returned (.tuple #[.string R,.bool (marked s.data.toList)]) /\ R.data.toList = restOf s.data.toList /\ w' = w:=
  (Tryz.strings_CutPrefix s ⟨#[118]⟩ w).mono fun e w' ⟨h1,h2⟩=>by
    have e0 : (⟨#[118]⟩ : ByteArray).data.toList = [118]:=rfl
    rw [e0,trimPrefix_v,hasPrefix_v] at h1
    exact ⟨⟨(restOf s.data.toList).toArray⟩,h1,by simp,h2⟩
theorem cut_any (s : ByteArray) (m : Int) (w : World) (hs : s.size < 4294967281) (hm : w.cell? ⟨11,0,none⟩ = some (.int .i64 m)) :
    Calls Tryz.prog 163 #[.string s,.string ⟨#[45]⟩] w fun e w'=>∃ C T : ByteArray,e = .returned (.tuple #[.string C,.string T,.bool (one 45 s.data.toList).2.2]) /\ C.data.toList = (one 45 s.data.toList).1 /\ T.data.toList = (one 45 s.data.toList).2.1 /\ Below w.heap.size w w':=
  (Tryz.strings_Cut s ⟨#[45]⟩ m w hs hm).mono fun e w' ⟨h1,n,h2⟩=>by
    have e0 : (⟨#[45]⟩ : ByteArray).data.toList = [45]:=rfl
    rw [e0,cut_one] at h1
    exact ⟨⟨(one 45 s.data.toList).1.toArray⟩,⟨(one 45 s.data.toList).2.1.toArray⟩,h1,by simp,by simp,by rw [h2]; exact below_drawn w n⟩
theorem one_le (c : UInt8) (l : List UInt8) : (one c l).1.length <= l.length /\ (one c l).2.1.length <= l.length:=by
  unfold one
  have h:=congrArg List.length (List.takeWhile_append_dropWhile (p:=(· != c)) (l:=l))
  simp only [List.length_append] at h
  simp only [List.length_drop]
  omega
theorem size_of {s : ByteArray} {l : List UInt8} (h : s.data.toList = l) : s.size = l.length:=by rw [<- h]; simp
theorem res4 {w w3 : World} {a b c d : Value} {T : TypeId} (hb : Below (w.heap.size + 1) (w.alloc (.cells #[a,b,c,d] T)) w3) :
    (w3.cell? ⟨w.heap.size,0,none⟩ = some a /\ w3.cell? ⟨w.heap.size,1,none⟩ = some b /\ w3.cell? ⟨w.heap.size,2,none⟩ = some c /\ w3.cell? ⟨w.heap.size,3,none⟩ = some d) /\
    (∀ o,w3.frozen? ⟨w.heap.size,o,none⟩ = false) /\ w.heap.size < w3.heap.size:=by
  refine ⟨⟨?_,?_,?_,?_⟩,?_,?_⟩
  · rw [hb.cell (by simp)]; simp
  · rw [hb.cell (by simp)]; simp
  · rw [hb.cell (by simp)]; simp
  · rw [hb.cell (by simp)]; simp
  · intro o; rw [hb.frozen (by simp)]; simp
  · have:=hb.size; simp at this; omega
set_option maxHeartbeats 1000000 in
theorem vsplit_shape (s : ByteArray) (aT aB : Addr) (m : Int) (w : World) (hs : s.size < 4294967281) (S : Vs w aT aB m) (h0 : marked s.data.toList = false \/ (coreOf s.data.toList).length ≠ 3) :
    Calls Tryz.prog 125 #[.string s] w fun e w'=>e = .returned (.tuple #[.agg #[.int .i64 0,.int .i64 0,.int .i64 0,.slice none 0 0],.iface 319 (.pointer (some aT))]) /\ Below w.heap.size w w':=by
  have HB0:=hid ((Below.refl w.heap.size w).alloc (Nat.le_refl _) (.cells #[.int .i64 0,.int .i64 0,.int .i64 0,.slice none 0 0] 144))
  have HS:=hid (S.below HB0.out)
  have H0:=hid h0
  have hne1 : ¬ w.heap.size = 3:=by have:=lt_of_cell S.t; simp at this; omega
  have hne2 : ¬ 3 = w.heap.size:=fun h=>hne1 h.symm
  clear S h0
  go_enter Tryz.func125,Tryz.ntmps125
  go_wp2_with fail
  refine (cutPrefix_any s _).mono ?_
  rintro e w1 ⟨R,rfl,hR,rfl⟩
  have HR:=hid hR
  have hRs : R.size < 4294967281:=by
    have h1:=size_of hR
    have h2:=restOf_le s.data.toList
    simp at h2; omega
  clear hR
  go_wp2_with fail
  refine (cut_any R m _ hRs HS.out.ml).mono ?_
  rintro e w2 ⟨C,T,rfl,hC,hT,hb2⟩
  have HC:=hid hC
  have hCs : C.size < 4294967281:=by
    have h1:=size_of hC
    have h2:=(one_le 45 R.data.toList).1
    simp at h2; omega
  have HB2:=hid (show Below (w.heap.size + 1) (w.alloc (.cells #[.int .i64 0,.int .i64 0,.int .i64 0,.slice none 0 0] 144)) w2 from hb2.mono (by simp))
  have HS2:=hid (HS.out.below hb2)
  clear hC hT hb2
  go_wp2_with fail
  refine (nums_any C aT aB m w2 hCs HS2.out).mono ?_
  rintro e w3 ⟨v,rfl,hown,hb3⟩
  have HO:=hid hown
  have HB3:=hid (HB2.out.trans (hb3.mono (by have:=HB2.out.size; simpa using this)))
  obtain ⟨⟨r0,r1,r2,r3⟩,rf,rz⟩:=res4 HB3.out
  have HS3:=hid (HS2.out.below hb3)
  have g:=HS3.out.t
  have HBF:=hid (HB0.out.trans (HB3.out.mono (by omega)))
  have hCC : cutAt 46 C.data.toList = coreOf s.data.toList:=by rw [HC.out,HR.out]; rfl
  rw [hCC] at HO
  clear hown hb3 hCC
  cases hmk : marked s.data.toList
  · clear hmk
    go_wp2_with fail
    go_region
    all_goals (try go_wp2)
    all_goals
      refine bodyPost_ret (v:=.tuple #[.agg #[.int .i64 0,.int .i64 0,.int .i64 0,.slice none 0 0],.iface 319 (.pointer (some aT))]) (by simp [results,Tryz.results125,go_sem,r0,r1,r2,r3]) rfl ⟨rfl,?_⟩
      exact ((((HBF.out.setCell (Nat.le_refl _) _).setCell (Nat.le_refl _) _).setCell (Nat.le_refl _) _).setCell (Nat.le_refl _) _).drew
  · have h3 : (((coreOf s.data.toList).length : Int) == 3) = false:=by
      rcases H0.out with h | h
      · rw [hmk] at h; cases h
      · simp; omega
    clear hmk
    obtain ⟨_,⟨_,hn0⟩ | ⟨g9,cap,cur,hv,_⟩⟩:=HO.out
    · exact absurd (List.length_eq_zero_iff.1 hn0) (cutAt_ne _ _)
    · subst hv
      generalize (coreOf s.data.toList).length = n at *
      go_wp2_with fail
      go_region
      all_goals (try go_wp2)
      all_goals
        refine bodyPost_ret (v:=.tuple #[.agg #[.int .i64 0,.int .i64 0,.int .i64 0,.slice none 0 0],.iface 319 (.pointer (some aT))]) (by simp [results,Tryz.results125,go_sem,r0,r1,r2,r3]) rfl ⟨rfl,?_⟩
        exact ((((HBF.out.setCell (Nat.le_refl _) _).setCell (Nat.le_refl _) _).setCell (Nat.le_refl _) _).setCell (Nat.le_refl _) _).drew
def StrsAt (w : World) (v : Value) (X : List ByteArray) : Prop:=
  (X = [] /\ v = .slice none 0 0) \/ (X ≠ [] /\ ∃ b,v = .slice (some ⟨b,0,none⟩) X.length X.length /\ b < w.heap.size /\ ∀ j (h : j < X.length),w.cell? ⟨b,0 + j,none⟩ = some (.string X[j]))
theorem StrsAt.below {w w' : World} {v : Value} {X : List ByteArray} (h : StrsAt w v X) (hb : Below w.heap.size w w') : StrsAt w' v X:=by
  rcases h with h | ⟨h,b,e1,e2,e3⟩
  · exact Or.inl h
  · exact Or.inr ⟨h,b,e1,Nat.lt_of_lt_of_le e2 hb.size,fun j hj=>cell_below hb (e3 j hj)⟩
def nAt (l : List UInt8) (i : Nat) : Int:=(numsOf (coreOf l)).getD i 0
theorem n_three {l : List UInt8} (h : (coreOf l).length = 3) : numsOf (coreOf l) = [nAt l 0,nAt l 1,nAt l 2]:=by
  unfold nAt
  have : (numsOf (coreOf l)).length = 3:=by rw [numsOf_len,h]
  match hq : numsOf (coreOf l),this with
  | [a,b,c],_=>rfl
theorem three_cells {w : World} {g : Nat} {cur : Array Value} {e : TypeId} {a b c : Int} (hb : w.heap[g]? = some (.cells cur e (0,0))) (ht : cur.toList.take (3 * 1) = [a,b,c].map (Value.int .i64)) :
    w.cell? ⟨g,0,none⟩ = some (.int .i64 a) /\ w.cell? ⟨g,1,none⟩ = some (.int .i64 b) /\ w.cell? ⟨g,2,none⟩ = some (.int .i64 c):=by
  have key : ∀ i,i < 3 -> cur[i]? = ([a,b,c].map (Value.int .i64))[i]?:=fun i hi=>by
    rw [<- ht,List.getElem?_take,if_pos (by omega)]; simp
  have k0:=key 0 (by omega)
  have k1:=key 1 (by omega)
  have k2:=key 2 (by omega)
  simp at k0 k1 k2
  simp [World.cell?,hb,k0,k1,k2]
set_option maxHeartbeats 1000000 in
theorem vsplit_num (s : ByteArray) (aT aB : Addr) (m : Int) (w : World) (hs : s.size < 4294967281) (S : Vs w aT aB m) (hmk : marked s.data.toList = true) (h3 : (coreOf s.data.toList).length = 3) (hp : hasPre s.data.toList = false) (hq : numsErr (coreOf s.data.toList) ≠ 0) :
    Calls Tryz.prog 125 #[.string s] w fun e w'=>e = .returned (.tuple #[.agg #[.int .i64 0,.int .i64 0,.int .i64 0,.slice none 0 0],errV aT aB (numsErr (coreOf s.data.toList))]) /\ Below w.heap.size w w':=by
  have HQ:=hid hq
  clear hq
  have HB0:=hid ((Below.refl w.heap.size w).alloc (Nat.le_refl _) (.cells #[.int .i64 0,.int .i64 0,.int .i64 0,.slice none 0 0] 144))
  have HS:=hid (S.below HB0.out)
  have hne1 : ¬ w.heap.size = 3:=by have:=lt_of_cell S.t; simp at this; omega
  have hne2 : ¬ 3 = w.heap.size:=fun h=>hne1 h.symm
  have HM:=hid hmk
  have H3:=hid h3
  have HP:=hid hp
  clear S hmk h3 hp
  go_enter Tryz.func125,Tryz.ntmps125
  go_wp2_with fail
  refine (cutPrefix_any s _).mono ?_
  rintro e w1 ⟨R,rfl,hR,rfl⟩
  rw [HM.out]
  have HR:=hid hR
  have hRs : R.size < 4294967281:=by
    have h1:=size_of hR
    have h2:=restOf_le s.data.toList
    simp at h2; omega
  clear hR
  go_wp2_with fail
  refine (cut_any R m _ hRs HS.out.ml).mono ?_
  rintro e w2 ⟨C,T,rfl,hC,hT,hb2⟩
  rw [show (one 45 R.data.toList).2.2 = false by rw [HR.out]; exact HP.out]
  have HC:=hid hC
  have HT:=hid hT
  have hCs : C.size < 4294967281:=by
    have h1:=size_of hC
    have h2:=(one_le 45 R.data.toList).1
    simp at h2; omega
  have hTs : T.size < 4294967281:=by
    have h1:=size_of hT
    have h2:=(one_le 45 R.data.toList).2
    simp at h2; omega
  have HB2:=hid (show Below (w.heap.size + 1) (w.alloc (.cells #[.int .i64 0,.int .i64 0,.int .i64 0,.slice none 0 0] 144)) w2 from hb2.mono (by simp))
  have HS2:=hid (HS.out.below hb2)
  clear hC hT hb2
  go_wp2_with fail
  refine (nums_any C aT aB m w2 hCs HS2.out).mono ?_
  rintro e w3 ⟨v,rfl,hown,hb3⟩
  have hCC : cutAt 46 C.data.toList = coreOf s.data.toList:=by rw [HC.out,HR.out]; rfl
  rw [hCC] at hown ⊢
  rw [H3.out,n_three H3.out] at hown
  have HB3:=hid (HB2.out.trans (hb3.mono (by have:=HB2.out.size; simpa using this)))
  have HS3:=hid (HS2.out.below hb3)
  have HZ:=hid (show w.heap.size + 1 <= w2.heap.size by have:=HB2.out.size; simpa using this)
  obtain ⟨_,⟨_,hn0⟩ | ⟨g9,cap,cur,hv,hg9,hblk,hcap,hcm,hcs,hct⟩⟩:=hown
  · cases hn0
  subst hv
  have HK:=hid (show w3.cell? ⟨g9,0,none⟩ = some (.int .i64 (nAt s.data.toList 0)) /\ w3.cell? ⟨g9,1,none⟩ = some (.int .i64 (nAt s.data.toList 1)) /\ w3.cell? ⟨g9,2,none⟩ = some (.int .i64 (nAt s.data.toList 2)) from three_cells hblk hct)
  have HG:=hid hg9
  clear hg9 hblk hcap hcm hcs hct hb3 hCC
  have HE:=hid (numsErr_err (coreOf s.data.toList))
  rcases HE.out with h | h | h
  · exact absurd h HQ.out
  · have HH:=hid h
    rw [h,errV1]
    clear h
    obtain ⟨⟨r0,r1,r2,r3⟩,rf,rz⟩:=res4 HB3.out
    have HBF:=hid (HB0.out.trans (HB3.out.mono (by omega)))
    go_wp2_with fail
    refine bodyPost_ret (v:=.tuple #[.agg #[.int .i64 0,.int .i64 0,.int .i64 0,.slice none 0 0],.iface 319 (.pointer (some aT))]) (by simp [results,Tryz.results125,go_sem,r0,r1,r2,r3]) rfl ⟨by rw [HH.out]; rfl,?_⟩
    exact (((HBF.out.setCell (Nat.le_refl _) _).setCell (Nat.le_refl _) _).setCell (Nat.le_refl _) _).setCell (Nat.le_refl _) _
  · have HH:=hid h
    rw [h,errV2]
    clear h
    obtain ⟨⟨r0,r1,r2,r3⟩,rf,rz⟩:=res4 HB3.out
    have HBF:=hid (HB0.out.trans (HB3.out.mono (by omega)))
    go_wp2_with fail
    refine bodyPost_ret (v:=.tuple #[.agg #[.int .i64 0,.int .i64 0,.int .i64 0,.slice none 0 0],.iface 319 (.pointer (some aB))]) (by simp [results,Tryz.results125,go_sem,r0,r1,r2,r3]) rfl ⟨by rw [HH.out]; rfl,?_⟩
    exact (((HBF.out.setCell (Nat.le_refl _) _).setCell (Nat.le_refl _) _).setCell (Nat.le_refl _) _).setCell (Nat.le_refl _) _
set_option maxHeartbeats 1000000 in
theorem vsplit_plain (s : ByteArray) (aT aB : Addr) (m : Int) (w : World) (hs : s.size < 4294967281) (S : Vs w aT aB m) (hmk : marked s.data.toList = true) (h3 : (coreOf s.data.toList).length = 3) (hp : hasPre s.data.toList = false) (hq : numsErr (coreOf s.data.toList) = 0) :
    Calls Tryz.prog 125 #[.string s] w fun e w'=>e = .returned (.tuple #[.agg #[.int .i64 (nAt s.data.toList 0),.int .i64 (nAt s.data.toList 1),.int .i64 (nAt s.data.toList 2),.slice none 0 0],.nilIface]) /\ Below w.heap.size w w':=by
  have HQ:=hid hq
  clear hq
  have HB0:=hid ((Below.refl w.heap.size w).alloc (Nat.le_refl _) (.cells #[.int .i64 0,.int .i64 0,.int .i64 0,.slice none 0 0] 144))
  have HS:=hid (S.below HB0.out)
  have hne1 : ¬ w.heap.size = 3:=by have:=lt_of_cell S.t; simp at this; omega
  have hne2 : ¬ 3 = w.heap.size:=fun h=>hne1 h.symm
  have HM:=hid hmk
  have H3:=hid h3
  have HP:=hid hp
  clear S hmk h3 hp
  go_enter Tryz.func125,Tryz.ntmps125
  go_wp2_with fail
  refine (cutPrefix_any s _).mono ?_
  rintro e w1 ⟨R,rfl,hR,rfl⟩
  rw [HM.out]
  have HR:=hid hR
  have hRs : R.size < 4294967281:=by
    have h1:=size_of hR
    have h2:=restOf_le s.data.toList
    simp at h2; omega
  clear hR
  go_wp2_with fail
  refine (cut_any R m _ hRs HS.out.ml).mono ?_
  rintro e w2 ⟨C,T,rfl,hC,hT,hb2⟩
  rw [show (one 45 R.data.toList).2.2 = false by rw [HR.out]; exact HP.out]
  have HC:=hid hC
  have HT:=hid hT
  have hCs : C.size < 4294967281:=by
    have h1:=size_of hC
    have h2:=(one_le 45 R.data.toList).1
    simp at h2; omega
  have hTs : T.size < 4294967281:=by
    have h1:=size_of hT
    have h2:=(one_le 45 R.data.toList).2
    simp at h2; omega
  have HB2:=hid (show Below (w.heap.size + 1) (w.alloc (.cells #[.int .i64 0,.int .i64 0,.int .i64 0,.slice none 0 0] 144)) w2 from hb2.mono (by simp))
  have HS2:=hid (HS.out.below hb2)
  clear hC hT hb2
  go_wp2_with fail
  refine (nums_any C aT aB m w2 hCs HS2.out).mono ?_
  rintro e w3 ⟨v,rfl,hown,hb3⟩
  have hCC : cutAt 46 C.data.toList = coreOf s.data.toList:=by rw [HC.out,HR.out]; rfl
  rw [hCC] at hown ⊢
  rw [H3.out,n_three H3.out] at hown
  have HB3:=hid (HB2.out.trans (hb3.mono (by have:=HB2.out.size; simpa using this)))
  have HS3:=hid (HS2.out.below hb3)
  have HZ:=hid (show w.heap.size + 1 <= w2.heap.size by have:=HB2.out.size; simpa using this)
  obtain ⟨_,⟨_,hn0⟩ | ⟨g9,cap,cur,hv,hg9,hblk,hcap,hcm,hcs,hct⟩⟩:=hown
  · cases hn0
  subst hv
  have HK:=hid (show w3.cell? ⟨g9,0,none⟩ = some (.int .i64 (nAt s.data.toList 0)) /\ w3.cell? ⟨g9,1,none⟩ = some (.int .i64 (nAt s.data.toList 1)) /\ w3.cell? ⟨g9,2,none⟩ = some (.int .i64 (nAt s.data.toList 2)) from three_cells hblk hct)
  have HG:=hid hg9
  clear hg9 hblk hcap hcm hcs hct hb3 hCC
  rw [HQ.out,errV0]
  obtain ⟨⟨r0,r1,r2,r3⟩,rf,rz⟩:=res4 HB3.out
  have HBF:=hid (HB0.out.trans (HB3.out.mono (by omega)))
  obtain ⟨k0,k1,k2⟩:=HK.out
  have hg9 : ¬ g9 = w.heap.size:=by have h1:=HG.out; have h2:=HZ.out; omega
  have hg9' : ¬ w.heap.size = g9:=fun h=>hg9 h.symm
  generalize hn0 : nAt s.data.toList 0 = n0 at *
  generalize hn1 : nAt s.data.toList 1 = n1 at *
  generalize hn2 : nAt s.data.toList 2 = n2 at *
  have HN0:=hid hn0
  have HN1:=hid hn1
  have HN2:=hid hn2
  clear hn0 hn1 hn2
  go_wp2_with fail
  go_region
  all_goals (try go_wp2)
  all_goals
    refine bodyPost_ret (v:=.tuple #[.agg #[.int .i64 n0,.int .i64 n1,.int .i64 n2,.slice none 0 0],.nilIface]) (by simp [results,Tryz.results125,go_sem,r0,r1,r2,r3]) rfl ⟨by rw [HN0.out,HN1.out,HN2.out],?_⟩
    exact ((((HBF.out.setCell (Nat.le_refl _) _).setCell (Nat.le_refl _) _).setCell (Nat.le_refl _) _).setCell (Nat.le_refl _) _).drew
end Ve
end Go.Proofs.YtlcffhadobhfkaaGreatDoor
