/-
  ShelfR Wrap Laid VerA VerCut RefB RefH
-/
import Derived.ProofKit
import Derived.LaidMore
import Derived.Lay
import Derived.Stop.Joined
import Derived.HandedShaped
import Derived.Test.YtlcffhadobhfkaaGreatDoorMq2
namespace Go.Proofs
open Go.Shelf
def Tryz.lays190_ren : Go.Shelf.Ren:=⟨fun | 190=>277 | 125=>158 | 258=>291 | 128=>200 | 129=>201 | 302=>303 | 303=>304 | 304=>305 | 305=>306 | 306=>307 | 307=>308 | 308=>309 | 309=>310 | 310=>311 | 333=>318 | 329=>229 | 330=>230 | 334=>319 | 335=>320 | 336=>321 | 344=>327 | n=>n,fun | 31=>43 | 9=>9 | 3=>3 | 46=>181 | 0=>0 | 51=>228 | 53=>230 | 4=>4 | 183=>221 | 182=>220 | 131=>225 | 5=>5 | 218=>246 | 222=>250 | 228=>266 | 229=>83 | n=>n,fun | n=>n⟩
theorem Tryz.lays190 : Go.Proofs.Lays.n190 Tryz.prog Tryz.lays190_ren:={
  mixed:=by kernel_rfl
  f125:=Tryz.func158.trans (congrArg some (by kernel_rfl))
  f128:=Tryz.func200.trans (congrArg some (by kernel_rfl))
  f129:=Tryz.func201.trans (congrArg some (by kernel_rfl))
  f190:=Tryz.func277.trans (congrArg some (by kernel_rfl))
  f258:=Tryz.func291.trans (congrArg some (by kernel_rfl))
  f302:=Tryz.func303.trans (congrArg some (by kernel_rfl))
  f303:=Tryz.func304.trans (congrArg some (by kernel_rfl))
  f304:=Tryz.func305.trans (congrArg some (by kernel_rfl))
  f305:=Tryz.func306.trans (congrArg some (by kernel_rfl))
  f306:=Tryz.func307.trans (congrArg some (by kernel_rfl))
  f307:=Tryz.func308.trans (congrArg some (by kernel_rfl))
  f308:=Tryz.func309.trans (congrArg some (by kernel_rfl))
  f309:=Tryz.func310.trans (congrArg some (by kernel_rfl))
  f310:=Tryz.func311.trans (congrArg some (by kernel_rfl))
  f329:=Tryz.func229.trans (congrArg some (by kernel_rfl))
  f330:=Tryz.func230.trans (congrArg some (by kernel_rfl))
  f333:=Tryz.func318.trans (congrArg some (by kernel_rfl))
  f334:=Tryz.func319.trans (congrArg some (by kernel_rfl))
  f335:=Tryz.func320.trans (congrArg some (by kernel_rfl))
  f336:=Tryz.func321.trans (congrArg some (by kernel_rfl))
  f344:=Tryz.func327.trans (congrArg some (by kernel_rfl))
  t0:=Tryz.underlying0
  a0:=Tryz.isAgg0
  z0:=Tryz.sizeOf0
  v0:=Tryz.zeroValue0
  t3:=Tryz.underlying3
  a3:=Tryz.isAgg3
  z3:=Tryz.sizeOf3
  v3:=Tryz.zeroValue3
  t4:=Tryz.underlying4
  a4:=Tryz.isAgg4
  z4:=Tryz.sizeOf4
  v4:=Tryz.zeroValue4
  t5:=Tryz.underlying5
  a5:=Tryz.isAgg5
  z5:=Tryz.sizeOf5
  v5:=Tryz.zeroValue5
  t9:=Tryz.underlying9
  a9:=Tryz.isAgg9
  z9:=Tryz.sizeOf9
  v9:=Tryz.zeroValue9
  t31:=Tryz.underlying43
  a31:=Tryz.isAgg43
  z31:=Tryz.sizeOf43
  v31:=Tryz.zeroValue43
  t46:=Tryz.underlying181
  a46:=Tryz.isAgg181
  z46:=Tryz.sizeOf181
  v46:=Tryz.zeroValue181
  t51:=Tryz.underlying228
  a51:=Tryz.isAgg228
  z51:=Tryz.sizeOf228
  v51:=Tryz.zeroValue228
  t53:=Tryz.underlying230
  a53:=Tryz.isAgg230
  z53:=Tryz.sizeOf230
  v53:=Tryz.zeroValue230
  t131:=Tryz.underlying225
  a131:=Tryz.isAgg225
  z131:=Tryz.sizeOf225
  v131:=Tryz.zeroValue225
  t182:=Tryz.underlying220
  a182:=Tryz.isAgg220
  z182:=Tryz.sizeOf220
  v182:=Tryz.zeroValue220
  t183:=Tryz.underlying221
  a183:=Tryz.isAgg221
  z183:=Tryz.sizeOf221
  v183:=Tryz.zeroValue221
  t218:=Tryz.underlying246
  a218:=Tryz.isAgg246
  z218:=Tryz.sizeOf246
  v218:=Tryz.zeroValue246
  t222:=Tryz.underlying250
  a222:=Tryz.isAgg250
  z222:=Tryz.sizeOf250
  v222:=Tryz.zeroValue250
  t228:=Tryz.underlying266
  a228:=Tryz.isAgg266
  z228:=Tryz.sizeOf266
  v228:=Tryz.zeroValue266
  t229:=Tryz.underlying83
  a229:=Tryz.isAgg83
  z229:=Tryz.sizeOf83
  v229:=Tryz.zeroValue83 }
open Go.Sort Go.RowKit in
theorem Tryz.slices_Sort_string (blk off cap : Nat) (ss : List (List UInt8)) (w : World) (hH : Holds encStr w blk off ss.toArray) (hblk : blk < w.heap.size) (hsz : ss.length < 4611686018427387904) :
    Calls Tryz.prog 277 #[.slice (some ⟨blk,off,none⟩) ss.length cap] w fun e w'=>
      e = .returned (.tuple #[]) /\ ∃ n os,w' = grow (putRow encStr (Sort.ahead w n) blk off (ss.mergeSort fun x y=>decide (x <= y)).toArray) os:=Any.slices_Sort_string Tryz.lays190 blk off cap ss w hH hblk hsz
def Tryz.lays193_ren : Go.Shelf.Ren:=⟨fun | 193=>216 | n=>n,fun | 31=>43 | 9=>9 | 4=>4 | 3=>3 | 0=>0 | n=>n,fun | n=>n⟩
theorem Tryz.lays193 : Go.Proofs.Lays.n193 Tryz.prog Tryz.lays193_ren:={
  mixed:=by kernel_rfl
  f193:=Tryz.func216.trans (congrArg some (by kernel_rfl))
  t0:=Tryz.underlying0
  a0:=Tryz.isAgg0
  z0:=Tryz.sizeOf0
  v0:=Tryz.zeroValue0
  t3:=Tryz.underlying3
  a3:=Tryz.isAgg3
  z3:=Tryz.sizeOf3
  v3:=Tryz.zeroValue3
  t4:=Tryz.underlying4
  a4:=Tryz.isAgg4
  z4:=Tryz.sizeOf4
  v4:=Tryz.zeroValue4
  t9:=Tryz.underlying9
  a9:=Tryz.isAgg9
  z9:=Tryz.sizeOf9
  v9:=Tryz.zeroValue9
  t31:=Tryz.underlying43
  a31:=Tryz.isAgg43
  z31:=Tryz.sizeOf43
  v31:=Tryz.zeroValue43 }
open Go.RowKit Go.Lib in
theorem Tryz.slices_Equal_string (b1 o1 n c b2 o2 m d : Nat) (xs ys : List ByteArray) (w : World) (hx : n <= xs.length) (hy : m <= ys.length) (hbig : n <= 9223372036854775807) (hbig2 : m <= 9223372036854775807) (hc1 : ∀ j,j < xs.length -> w.cell? ⟨b1,o1 + j,none⟩ = some (.string (xs.getD j ByteArray.empty))) (hc2 : ∀ j,j < ys.length -> w.cell? ⟨b2,o2 + j,none⟩ = some (.string (ys.getD j ByteArray.empty))) :
    Calls Tryz.prog 216 #[.slice (some ⟨b1,o1,none⟩) n c,.slice (some ⟨b2,o2,none⟩) m d] w fun e w'=>e = .returned (.bool (decide (xs.take n = ys.take m))) /\ ∃ q,w' = w.drewN q:=Any.slices_Equal_string Tryz.lays193 b1 o1 n c b2 o2 m d xs ys w hx hy hbig hbig2 hc1 hc2
open Go.RowKit Go.Lib in
theorem Tryz.slices_Equal_string_empty (a1 a2 : Option Addr) (c m d : Nat) (w : World) (hbig2 : m <= 9223372036854775807) :
    Calls Tryz.prog 216 #[.slice a1 0 c,.slice a2 m d] w fun e w'=>e = .returned (.bool (decide (m = 0))) /\ w' = w:=Any.slices_Equal_string_empty Tryz.lays193 a1 a2 c m d w hbig2
def Tryz.lays194_ren : Go.Shelf.Ren:=⟨fun | 194=>249 | n=>n,fun | 31=>43 | 9=>9 | 3=>3 | 4=>4 | 0=>0 | n=>n,fun | n=>n⟩
theorem Tryz.lays194 : Go.Proofs.Lays.n194 Tryz.prog Tryz.lays194_ren:={
  mixed:=by kernel_rfl
  f194:=Tryz.func249.trans (congrArg some (by kernel_rfl))
  t0:=Tryz.underlying0
  a0:=Tryz.isAgg0
  z0:=Tryz.sizeOf0
  v0:=Tryz.zeroValue0
  t3:=Tryz.underlying3
  a3:=Tryz.isAgg3
  z3:=Tryz.sizeOf3
  v3:=Tryz.zeroValue3
  t4:=Tryz.underlying4
  a4:=Tryz.isAgg4
  z4:=Tryz.sizeOf4
  v4:=Tryz.zeroValue4
  t9:=Tryz.underlying9
  a9:=Tryz.isAgg9
  z9:=Tryz.sizeOf9
  v9:=Tryz.zeroValue9
  t31:=Tryz.underlying43
  a31:=Tryz.isAgg43
  z31:=Tryz.sizeOf43
  v31:=Tryz.zeroValue43 }
open Go.RowKit Go.Lib Go.Sort in
theorem Tryz.slices_Compact_string (blk off cap : Nat) (zs : List (List UInt8)) (w : World) (hH : Holds encStr w blk off zs.toArray) (hsz : zs.length <= 9223372036854775807) (hcap : zs.length <= cap) :
    Calls Tryz.prog 249 #[.slice (some ⟨blk,off,none⟩) zs.length cap] w fun e w'=>e = .returned (.slice (some ⟨blk,off,none⟩) (Lib.compact zs).length cap) /\ ∃ q,w' = putRow encStr (Sort.ahead w q) blk off (Lib.compact zs ++ List.replicate (zs.length - (Lib.compact zs).length) []).toArray:=Any.slices_Compact_string Tryz.lays194 blk off cap zs w hH hsz hcap
open Go.RowKit Go.Lib Go.Sort in
theorem Tryz.slices_Compact_string_empty (a : Option Addr) (cap : Nat) (w : World) :
    Calls Tryz.prog 249 #[.slice a 0 cap] w fun e w'=>e = .returned (.slice a 0 cap) /\ w' = w:=Any.slices_Compact_string_empty Tryz.lays194 a cap w
open Go.RowKit Go.Sort in
theorem Tryz.slices_Sort_string_none (p : Option Addr) (cap : Nat) (w : World) :
    Calls Tryz.prog 277 #[.slice p 0 cap] w fun e w'=>e = .returned (.tuple #[]) /\ w' = w:=Any.slices_Sort_string_none Tryz.lays190 p cap w
open Go.RowKit Go.Lib in
theorem Tryz.slices_Equal_string_lens (a1 a2 : Option Addr) (n c m d : Nat) (w : World) (hnm : n ≠ m) :
    Calls Tryz.prog 216 #[.slice a1 n c,.slice a2 m d] w fun e w'=>e = .returned (.bool false) /\ w' = w:=Any.slices_Equal_string_lens Tryz.lays193 a1 a2 n c m d w hnm
end Go.Proofs
namespace Go.Proofs.YtlcffhadobhfkaaGreatDoor
open Go.ChangeShapes Go.WideShapes Go.ChangeAt Go.RowKit
namespace Ve
theorem wrap_and_shaped {H : Type} {enc : TypeId × Value -> H} {a : Assume} {C : Checked} {os : Go.Os} {f : FuncId} {fn : Func} {s : ChangeSpec} {conds : List PathCond} {apart fresh handsOn again : Bool} {X : World -> Array Value -> Prop}
    (hX : ∀ (w w' : World) (args : Array Value),w.heap = w'.heap -> X w args -> X w' args)
    (own : ownKnob C.prog.godebug = none) (started : os.Started) (noInit : C.prog.inits.idxOf? f = none) (hfn : C.prog.funcs[f]? = some fn)
    (witness : ∃ (w : World) (tape : Tape) (i : Input),w.os = os /\ (w.forCall tape i).Shaped C.prog /\ i.vars = [] /\ Input.okWide C.prog (w.forCall tape i) .any w.heap.size f i /\
      ((s.pre enc C.prog fn conds apart (w.forCall tape i).memory i.args /\ X (w.forCall tape i).memory i.args) /\ sizedMet enc C.prog fn (OpenSpec.ofChange s) apart (w.forCall tape i).memory i.args) /\ a.holds C.prog (lone (Frame.enter C.prog f i.args .normal) [] (w.forCall tape i)))
    (contract : ∀ (W : World) (base : Nat) (args : Array Value) (ds gs : List (DataW H)) (before : List MemPlace),
      (∀ (j : Nat) t v,fn.params[j]? = some t -> args[j]? = some v -> Value.okWide C.prog W .any base t v) ->
      DataW.Whole enc C.prog fn.params.toList s.vars apart W args.toList ds gs before -> X W args -> W.ShapedOpen C.prog ->
      Calls C.prog f args W fun e W'=>∃ v,e = .returned v /\ s.post enc C.prog fn apart fresh handsOn again W args v W') :
    ReturnsInHanded a C os f .any (fun w args=>(s.pre enc C.prog fn conds apart w args /\ X w args) /\ sizedMet enc C.prog fn (OpenSpec.ofChange s) apart w args) (s.post enc C.prog fn apart fresh handsOn again):=by
  refine returnsInHanded_of_calls own started noInit witness ?_
  intro w tape i _ hsh _ hok hpre _
  obtain ⟨_,_,_,fn',hfn',_,_,_,_,hval⟩:=hok
  have e : fn' = fn:=Option.some.inj (hfn'.symm.trans hfn)
  subst e
  obtain ⟨⟨⟨ds,gs,before,hw,_⟩,hx⟩,_⟩:=hpre
  have hw':=DataW.Whole.of_heap (w':=w.forCall tape i) (by rfl) hw
  refine (contract (w.forCall tape i) w.heap.size i.args ds gs before hval hw' (hX _ _ _ (by rfl) hx) hsh).mono fun e W' ⟨v,he,hp⟩=>?_
  subst he
  exact ChangeSpec.post_blind hp
theorem laidMet_over {P : Program} {w0 : World} {laid : List (String × DataW Unit)} (args : Array Value)
    (hf : w0.layFits P laid [] = true) (hi : w0.layIfaces P laid (w0.layVars P laid) = true) :
    laidMet P laid ((w0.layVars P laid).forCall (fun _ _=>0) ⟨#[],args,[]⟩).memory:=by
  have e1 : (laid.filter fun x=>(laid.map (·.1)).contains x.1) = laid:=List.filter_eq_self.2 fun x hx=>List.contains_iff_mem.2 (List.mem_map.2 ⟨x,hx,rfl⟩)
  have e2 : (laid.filter fun x=>!(laid.map (·.1)).contains x.1) = []:=List.filter_eq_nil_iff.2 fun x hx=>by rw [List.contains_iff_mem.2 (List.mem_map.2 ⟨x,hx,rfl⟩)]; simp
  have h : laidMet P laid (w0.layVars P laid):=laidMet_layVars (w0:=w0) (laid.map (·.1)) [] (by rw [e1]) (by rw [e1]; exact hf) (by rw [e1]; exact hi) (by rw [e2]; exact LaidIn.none)
  exact h.of_heap (by simp [World.memory,World.forCall,Input.heap])
end Ve
end Go.Proofs.YtlcffhadobhfkaaGreatDoor
namespace Go.Proofs.YtlcffhadobhfkaaGreatDoor
namespace Er
open Go
theorem sens_rest {P : Program} {nm : String} {W : World} {ti tp te ts : TypeId} {ms : Array (String × TypeId)} {f : Field}
    (hi : P.underlying ti = some (.interface ms)) (hrow : ∀ u,P.typeName? 3 u = some nm -> u = tp)
    (hp : P.underlying tp = some (.pointer te)) (he : P.underlying te = some (.struct #[f])) (hft : f.type = ts) (hfo : f.offset = 0) (hs : P.underlying ts = some .string) (hc : P.cellsOf te = 1) (hcs : P.cellsOf ts = 1) (rest : List (String × DataW Unit)) :
    ∀ (ns : List (String × Nat × List UInt8)) (ps : List MemPlace),
      DataW.LaidVars P W ((ns.map fun x=>(x.1,DataW.iface nm (.ptr (.agg [.lit (.string x.2.2)])))) ++ rest) ps ->
      (∀ x,x ∈ ns -> P.globalNamed x.1 = some x.2.1 /\ (P.globals[x.2.1]?).map (·.type) = some ti) ->
      (∀ b off,MemPlace.cell b off ∈ ps -> (∃ c t,W.heap[b]? = some (.cells c t (0,0))) /\ ∀ u v,W.cell? ⟨b,off,none⟩ = some (.iface u v) -> Value.okWide P W .any 0 u v) ->
      ∃ al : List Addr,al.length = ns.length /\ (al.map fun a=>MemPlace.cell a.block a.off).Sublist ps /\
        ∀ (i : Nat) (x : String × Nat × List UInt8) (a : Addr),ns[i]? = some x -> al[i]? = some a ->
          W.cell? ⟨x.2.1,0,none⟩ = some (.iface tp (.pointer (some a))) /\ ∃ c t,W.heap[a.block]? = some (.cells c t (0,0)):=by
  intro ns
  induction ns with
  | nil=>
    intro ps _ _ _
    exact ⟨[],rfl,List.nil_sublist _,fun i x a h=>by simp at h⟩
  | cons n r ih=>
    intro ps hl hg hr
    obtain ⟨g,t,cs,fuel,p,q,hg0,ht0,hv0,hd0,hq,e0⟩:=hl
    obtain ⟨k1,k2⟩:=hg n (List.mem_cons_self)
    obtain rfl:=Option.some.inj (k1.symm.trans hg0)
    obtain rfl:=Option.some.inj (k2.symm.trans ht0)
    subst e0
    obtain ⟨l0⟩:=cs
    have ok0 : ∀ u v,l0 = [.iface u v] -> Value.okWide P W .any 0 u v:=fun u v e=>by
      subst e
      exact (hr n.2.1 0 (by simp [MemPlace.row])).2 u v (by simpa using World.var?_cell hg0 hv0 0)
    obtain ⟨a0,s0,rfl,hc0,hs0,hz0,rfl⟩:=errorString_of_trod hi hrow hp he hft hfo hs hc hcs hd0 ok0
    obtain ⟨al,hlen,hsub,hall⟩:=ih q hq (fun x hx=>hg x (List.mem_cons_of_mem _ hx)) (fun b off hm=>hr b off (by simp [hm]))
    refine ⟨a0 :: al,by simp [hlen],?_,?_⟩
    · simp only [List.map_cons,MemPlace.row,List.range_one,List.map_nil,Nat.add_zero]
      exact List.Sublist.cons _ (List.Sublist.cons_cons _ hsub)
    · intro i x a hx ha
      cases i with
      | zero=>
        simp only [List.getElem?_cons_zero,Option.some.injEq] at hx ha
        subst hx; subst ha
        exact ⟨by simpa using World.var?_cell hg0 hv0 0,(hr a0.block a0.off (by simp [MemPlace.row])).1⟩
      | succ i=>
        simp only [List.getElem?_cons_succ] at hx ha
        exact hall i x a hx ha
theorem unlike {al : List Addr} {ps : List MemPlace} (hs : (al.map fun a=>MemPlace.cell a.block a.off).Sublist ps) (hn : ps.Nodup) {i j : Nat} (hi : i < al.length) (hj : j < al.length) (hij : i ≠ j) : al[i] ≠ al[j]:=by
  have h1 : (al.map fun a=>MemPlace.cell a.block a.off).Nodup:=hs.nodup hn
  intro e
  rw [List.Nodup,List.pairwise_iff_getElem] at h1
  rcases Nat.lt_or_gt_of_ne hij with h | h
  · exact h1 i j (by simpa using hi) (by simpa using hj) h (by simp [e])
  · exact h1 j i (by simpa using hj) (by simpa using hi) h (by simp [e])
end Er
end Go.Proofs.YtlcffhadobhfkaaGreatDoor
namespace Go.Proofs.YtlcffhadobhfkaaGreatDoor
open Go.RowKit
namespace Ve
theorem hid {p : Prop} (h : p) : Hid p:=h
theorem ret_bool {a b : Bool} (h : a = b) : Ending.returned (.bool a) = .returned (.bool b):=by rw [h]
theorem ret_int {k : IntKind} {a b : Int} (h : a = b) : Ending.returned (.int k a) = .returned (.int k b):=by rw [h]
theorem isDigit_any (c : Int) (w : World) (h0 : 0 <= c) (h1 : c <= 255) :
    Calls Tryz.prog 260 #[.int .u8 c] w fun e w'=>e = .returned (.bool (digB c)) /\ w' = w:=by
  by_cases a : 48 <= c
  all_goals
    go_enter Tryz.func260,Tryz.ntmps260
    go_wp2
    go_ret
    exact ⟨ret_bool (by unfold digB; rw [Bool.eq_iff_iff]; simp <;> omega),rfl⟩
theorem small_any (c : Int) (w : World) (h0 : 0 <= c) (h1 : c <= 255) :
    Calls Tryz.prog 259 #[.int .u8 c] w fun e w'=>e = .returned (.bool (decide (97 <= c /\ c <= 122))) /\ w' = w:=by
  by_cases a : 97 <= c
  all_goals
    go_enter Tryz.func259,Tryz.ntmps259
    go_wp2
    go_ret
    exact ⟨ret_bool (by rw [Bool.eq_iff_iff]; simp <;> omega),rfl⟩
theorem inPart_any (c : Int) (w : World) (h0 : 0 <= c) (h1 : c <= 255) :
    Calls Tryz.prog 240 #[.int .u8 c] w fun e w'=>e = .returned (.bool (parB c)) /\ w' = w:=by
  have HP:=hid (show parB c = (digB c || decide (97 <= c /\ c <= 122) || decide (65 <= c /\ c <= 90) || c == 45) from rfl)
  have HC:=hid (isDigit_any c w h0 h1)
  have HS:=hid (small_any c w h0 h1)
  cases hd : digB c
  · rw [hd] at HC HP
    clear hd
    cases hs : decide (97 <= c /\ c <= 122)
    · rw [hs] at HS HP
      clear hs
      by_cases b1 : 65 <= c
      all_goals by_cases b2 : c <= 90
      all_goals try (exfalso; omega)
      all_goals
        go_enter Tryz.func240,Tryz.ntmps240
        go_wp2_with fail
        refine HC.out.mono ?_
        rintro e w' ⟨rfl,rfl⟩
        go_wp2_with fail
        refine HS.out.mono ?_
        rintro e w' ⟨rfl,rfl⟩
        go_wp2_with fail
      all_goals
        go_ret
        exact ⟨ret_bool (by rw [HP.out,Bool.eq_iff_iff]; simp <;> omega),rfl⟩
    · rw [hs] at HS HP
      clear hs
      go_enter Tryz.func240,Tryz.ntmps240
      go_wp2_with fail
      refine HC.out.mono ?_
      rintro e w' ⟨rfl,rfl⟩
      go_wp2_with fail
      refine HS.out.mono ?_
      rintro e w' ⟨rfl,rfl⟩
      go_wp2_with fail
      go_ret
      exact ⟨ret_bool (by rw [HP.out]; rfl),rfl⟩
  · rw [hd] at HC HP
    clear hd
    go_enter Tryz.func240,Tryz.ntmps240
    go_wp2_with fail
    refine HC.out.mono ?_
    rintro e w' ⟨rfl,rfl⟩
    go_wp2_with fail
    go_ret
    exact ⟨ret_bool (by rw [HP.out]; rfl),rfl⟩
set_option maxHeartbeats 400000 in
theorem every_dig (s : ByteArray) (w : World) (hs : s.size <= maxLen) :
    Calls Tryz.prog 221 #[.string s,.func (.func 260) #[] #[]] w fun e w'=>e = .returned (.bool (allDig s.data.toList)) /\ w' = w:=by
  unfold maxLen at hs
  go_enter Tryz.func221,Tryz.ntmps221
  go_wp2_with fail
  go_loop [8] (fun i=>∃ k : Nat,k <= s.size /\ i = .int .i64 k /\ Hid ((s.data.toList.take k).all dig = true)) (fun i=>s.size - (intOf i).toNat)
  case atStart=>exact ⟨0,Nat.zero_le _,rfl,hid rfl⟩
  case round=>
    obtain ⟨k,hk,rfl,HA⟩:=hrel
    by_cases hlt : k < s.size
    · have HS:=hid (all_snoc dig (s.data.toList.take k) s[k])
      rw [<- take_snoc s k hlt,HA.out,Bool.true_and] at HS
      cases hd : dig s[k]
      · rw [hd] at HS
        have HX:=hid (show allDig s.data.toList = false by
          have h2 : allDig s.data.toList = ((s.data.toList.take (k + 1)).all dig && (s.data.toList.drop (k + 1)).all dig):=by rw [<- List.all_append,List.take_append_drop]; rfl
          rw [h2,HS.out]; rfl)
        have HC:=hid (fun W=>isDigit_any (s[k].toNat : Int) W (by omega) (by have:=s[k].toNat_lt; omega))
        have HD:=hid (show digB (s[k].toNat : Int) = false from hd)
        clear hd
        go_wp2_with fail
        refine (HC.out _).mono ?_
        rintro e w' ⟨rfl,rfl⟩
        rw [HD.out]
        go_wp2_with fail
        go_ret
        exact ⟨ret_bool HX.out.symm,rfl⟩
      · rw [hd] at HS
        have HC:=hid (fun W=>isDigit_any (s[k].toNat : Int) W (by omega) (by have:=s[k].toNat_lt; omega))
        have HD:=hid (show digB (s[k].toNat : Int) = true from hd)
        clear hd
        go_wp2_with fail
        refine (HC.out _).mono ?_
        rintro e w' ⟨rfl,rfl⟩
        rw [HD.out]
        go_wp2_with fail
        go_round
        case rel=>exact ⟨k + 1,by omega,by go_num,HS⟩
        case measure=>simp [intOf]; omega
    · have HX:=hid (show allDig s.data.toList = true by
        have h2 : s.data.toList.take k = s.data.toList:=List.take_of_length_le (by simp; omega)
        have:=HA.out; rw [h2] at this; exact this)
      go_wp2_with fail
      go_ret
      exact ⟨ret_bool HX.out.symm,rfl⟩
set_option maxHeartbeats 400000 in
theorem every_par (s : ByteArray) (w : World) (hs : s.size <= maxLen) :
    Calls Tryz.prog 221 #[.string s,.func (.func 240) #[] #[]] w fun e w'=>e = .returned (.bool (allPar s.data.toList)) /\ w' = w:=by
  unfold maxLen at hs
  go_enter Tryz.func221,Tryz.ntmps221
  go_wp2_with fail
  go_loop [8] (fun i=>∃ k : Nat,k <= s.size /\ i = .int .i64 k /\ Hid ((s.data.toList.take k).all par = true)) (fun i=>s.size - (intOf i).toNat)
  case atStart=>exact ⟨0,Nat.zero_le _,rfl,hid rfl⟩
  case round=>
    obtain ⟨k,hk,rfl,HA⟩:=hrel
    by_cases hlt : k < s.size
    · have HS:=hid (all_snoc par (s.data.toList.take k) s[k])
      rw [<- take_snoc s k hlt,HA.out,Bool.true_and] at HS
      cases hd : par s[k]
      · rw [hd] at HS
        have HX:=hid (show allPar s.data.toList = false by
          have h2 : allPar s.data.toList = ((s.data.toList.take (k + 1)).all par && (s.data.toList.drop (k + 1)).all par):=by rw [<- List.all_append,List.take_append_drop]; rfl
          rw [h2,HS.out]; rfl)
        have HC:=hid (fun W=>inPart_any (s[k].toNat : Int) W (by omega) (by have:=s[k].toNat_lt; omega))
        have HD:=hid (show parB (s[k].toNat : Int) = false from hd)
        clear hd
        go_wp2_with fail
        refine (HC.out _).mono ?_
        rintro e w' ⟨rfl,rfl⟩
        rw [HD.out]
        go_wp2_with fail
        go_ret
        exact ⟨ret_bool HX.out.symm,rfl⟩
      · rw [hd] at HS
        have HC:=hid (fun W=>inPart_any (s[k].toNat : Int) W (by omega) (by have:=s[k].toNat_lt; omega))
        have HD:=hid (show parB (s[k].toNat : Int) = true from hd)
        clear hd
        go_wp2_with fail
        refine (HC.out _).mono ?_
        rintro e w' ⟨rfl,rfl⟩
        rw [HD.out]
        go_wp2_with fail
        go_round
        case rel=>exact ⟨k + 1,by omega,by go_num,HS⟩
        case measure=>simp [intOf]; omega
    · have HX:=hid (show allPar s.data.toList = true by
        have h2 : s.data.toList.take k = s.data.toList:=List.take_of_length_le (by simp; omega)
        have:=HA.out; rw [h2] at this; exact this)
      go_wp2_with fail
      go_ret
      exact ⟨ret_bool HX.out.symm,rfl⟩
def ahead (b : UInt8) : List (List UInt8) -> List (List UInt8)
  | []=>[[b]]
  | h :: t=>(b :: h) :: t
def cutAt (c : UInt8) : List UInt8 -> List (List UInt8)
  | []=>[[]]
  | b :: l=>if b = c then [] :: cutAt c l else ahead b (cutAt c l)
theorem ahead_len (b : UInt8) (x : List (List UInt8)) (h : x ≠ []) : (ahead b x).length = x.length:=by cases x <;> simp_all [ahead]
theorem cutAt_ne (c : UInt8) (l : List UInt8) : cutAt c l ≠ []:=by
  cases l with
  | nil=>simp [cutAt]
  | cons b l=>
    unfold cutAt
    split
    · simp
    · cases cutAt c l <;> simp [ahead]
theorem index_cons_ne (b c : UInt8) (l : List UInt8) (h : b ≠ c) : Lib.index (b :: l) [c] = if Lib.index l [c] == -1 then -1 else Lib.index l [c] + 1:=by
  have : ([c] : List UInt8).isPrefixOf (b :: l) = false:=by simp [List.isPrefixOf]; exact fun e=>h e.symm
  rw [Lib.index,this]; rfl
theorem index_cons_eq (c : UInt8) (l : List UInt8) : Lib.index (c :: l) [c] = 0:=by
  have : ([c] : List UInt8).isPrefixOf (c :: l) = true:=by simp [List.isPrefixOf]
  rw [Lib.index,this]; rfl
theorem splitK_ahead (b c : UInt8) (h : b ≠ c) (k : Nat) (l : List UInt8) : Lib.splitK [c] 0 k (b :: l) = ahead b (Lib.splitK [c] 0 k l):=by
  cases k with
  | zero=>rfl
  | succ k=>
    have hge:=Lib.index_ge l [c]
    unfold Lib.splitK
    rw [index_cons_ne b c l h]
    by_cases e : Lib.index l [c] = -1
    · rw [e]; rfl
    · obtain ⟨i,hi⟩ : ∃ i : Nat,Lib.index l [c] = i:=⟨(Lib.index l [c]).toNat,by omega⟩
      rw [hi]
      have e1 : ((i : Int) == -1) = false:=by simp
      have e2 : ((i : Int) + 1 == -1) = false:=by simp; omega
      have e3 : ((i : Int) + 1).toNat = i + 1:=by omega
      simp [e1,e2,e3,ahead]
theorem splitK_cutAt (c : UInt8) (l : List UInt8) : Lib.splitK [c] 0 (Lib.count l [c]) l = cutAt c l:=by
  induction l with
  | nil=>simp [Lib.count_one,Lib.splitK,cutAt]
  | cons b l ih=>
    by_cases h : b = c
    · subst h
      rw [Lib.count_cons_eq,Nat.add_comm]
      unfold Lib.splitK
      rw [index_cons_eq]
      simp only [cutAt,if_true]
      simpa using ih
    · rw [Lib.count_cons_ne b c l h,splitK_ahead b c h,ih]
      simp [cutAt,h]
theorem bl_split (c : UInt8) (s : ByteArray) : bl (Lib.splitB ⟨#[c]⟩ 0 (Lib.countB s ⟨#[c]⟩) s) = cutAt c s.data.toList:=by
  unfold bl
  rw [Lib.splitB_data]
  exact splitK_cutAt c s.data.toList
def one (c : UInt8) (l : List UInt8) : List UInt8 × List UInt8 × Bool:=(l.takeWhile (· != c),(l.dropWhile (· != c)).drop 1,l.contains c)
theorem cut_one (c : UInt8) (l : List UInt8) : Lib.cut l [c] = one c l:=by
  induction l with
  | nil=>simp [Lib.cut,Lib.index,one]
  | cons b l ih=>
    by_cases h : b = c
    · subst h
      unfold Lib.cut
      rw [index_cons_eq]
      simp [one]
    · have hge:=Lib.index_ge l [c]
      unfold Lib.cut at ih ⊢
      rw [index_cons_ne b c l h]
      have hb : (b != c) = true:=by simp [h]
      have hc : (b :: l).contains c = l.contains c:=by simp; intro e; exact absurd e.symm h
      simp only [one,List.takeWhile_cons,List.dropWhile_cons,hb,if_true,hc] at ih ⊢
      by_cases e : Lib.index l [c] = -1
      · rw [e] at ih ⊢
        simp only [show ¬ (0 : Int) <= -1 by decide,if_false,Prod.mk.injEq] at ih
        simp only [beq_self_eq_true,if_true,show ¬ (0 : Int) <= -1 by decide,if_false,Prod.mk.injEq]
        exact ⟨by rw [<- ih.1],ih.2.1,ih.2.2⟩
      · obtain ⟨i,hi⟩ : ∃ i : Nat,Lib.index l [c] = i:=⟨(Lib.index l [c]).toNat,by omega⟩
        rw [hi] at ih ⊢
        have e1 : ((i : Int) == -1) = false:=by simp
        have e3 : ((i : Int) + 1).toNat = i + 1:=by omega
        rw [if_pos (by omega)] at ih
        simp only [Prod.mk.injEq,Int.toNat_natCast,List.length_singleton] at ih
        rw [e1]
        simp only [Bool.false_eq_true,if_false]
        rw [if_pos (by omega),e3]
        simp only [Prod.mk.injEq,List.length_singleton,List.take_succ_cons,List.drop_succ_cons]
        exact ⟨by rw [<- ih.1],ih.2.1,ih.2.2⟩
theorem cutAt_le (c : UInt8) (l : List UInt8) : ∀ p,p ∈ cutAt c l -> p.length <= l.length:=by
  induction l with
  | nil=>intro p hp; simp [cutAt] at hp; simp [hp]
  | cons b l ih=>
    intro p hp
    unfold cutAt at hp
    split at hp
    · rcases List.mem_cons.1 hp with rfl | h
      · simp
      · have:=ih p h; simp; omega
    · cases hq : cutAt c l with
      | nil=>exact absurd hq (cutAt_ne c l)
      | cons h t=>
        rw [hq] at hp ih
        simp only [ahead,List.mem_cons] at hp
        rcases hp with rfl | hp
        · have:=ih h (List.mem_cons_self); simp; omega
        · have:=ih p (List.mem_cons_of_mem _ hp); simp; omega
theorem cutAt_many (c : UInt8) (l : List UInt8) : (cutAt c l).length <= l.length + 1:=by
  induction l with
  | nil=>simp [cutAt]
  | cons b l ih=>
    unfold cutAt
    split
    · simp; omega
    · rw [ahead_len b _ (cutAt_ne c l)]; simp; omega
theorem bl_mem {X : List ByteArray} {x : ByteArray} (h : x ∈ X) : x.data.toList ∈ bl X:=List.mem_map.2 ⟨x,h,rfl⟩
def numsErr (ps : List (List UInt8)) : Nat:=ps.foldl (fun b p=>worse b (num p).2) 0
def numsOf (ps : List (List UInt8)) : List Int:=ps.map fun p=>(num p).1
theorem numsErr_snoc (ps : List (List UInt8)) (p : List UInt8) : numsErr (ps ++ [p]) = worse (numsErr ps) (num p).2:=by simp [numsErr,List.foldl_append]
theorem numsErr_err (ps : List (List UInt8)) : numsErr ps = 0 \/ numsErr ps = 1 \/ numsErr ps = 2:=by
  have key : ∀ (ps : List (List UInt8)) (b : Nat),(b = 0 \/ b = 1 \/ b = 2) -> ps.foldl (fun b p=>worse b (num p).2) b = 0 \/ ps.foldl (fun b p=>worse b (num p).2) b = 1 \/ ps.foldl (fun b p=>worse b (num p).2) b = 2:=by
    intro ps
    induction ps with
    | nil=>intro b hb; exact hb
    | cons p r ih=>intro b hb; exact ih _ (worse_err hb (num_err p))
  exact key ps 0 (Or.inl rfl)
theorem numsOf_snoc (ps : List (List UInt8)) (p : List UInt8) : numsOf (ps ++ [p]) = numsOf ps ++ [(num p).1]:=by simp [numsOf]
theorem numsOf_len (ps : List (List UInt8)) : (numsOf ps).length = ps.length:=by simp [numsOf]
theorem infoStr : (Tryz.prog.info? 9).map (fun i=>(i.zero,i.size,i.bytes)) = some (some (.string ByteArray.empty),1,16):=by kernel_rfl
theorem one_yes {c : UInt8} {l : List UInt8} (h : l.contains c = true) : ∃ j,∃ hj : j < l.length,l[j] = c /\ (∀ k (hk : k < l.length),k < j -> l[k] ≠ c) /\ (one c l).1 = l.take j /\ (one c l).2.1 = l.drop (j + 1):=by
  induction l with
  | nil=>simp at h
  | cons a r ih=>
    by_cases e : a = c
    · subst e
      exact ⟨0,by simp,rfl,fun k hk h0=>absurd h0 (by omega),by simp [one],by simp [one]⟩
    · have hr : r.contains c = true:=by
        simp at h ⊢
        rcases h with h | h
        · exact absurd h.symm e
        · exact h
      obtain ⟨j,hj,h1,h2,h3,h4⟩:=ih hr
      refine ⟨j + 1,by simp; omega,by simpa using h1,?_,?_,?_⟩
      · intro k hk hkj
        cases k with
        | zero=>simpa using e
        | succ k=>simpa using h2 k (by simp at hk; omega) (by omega)
      · have : (a != c) = true:=by simp [e]
        simp only [one,List.takeWhile_cons,this,if_true,List.take_succ_cons] at h3 ⊢
        rw [h3]
      · have : (a != c) = true:=by simp [e]
        simp only [one,List.dropWhile_cons,this,if_true,List.drop_succ_cons] at h4 ⊢
        rw [h4]
end Ve
end Go.Proofs.YtlcffhadobhfkaaGreatDoor
