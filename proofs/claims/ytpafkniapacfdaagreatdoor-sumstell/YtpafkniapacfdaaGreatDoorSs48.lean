
import Derived.Test.YtpafkniapacfdaaGreatDoorSs47
import Derived.Test.YtpafkniapacfdaaGreatDoorSs39
import Derived.Test.YtpafkniapacfdaaGreatDoorSs38
import Derived.Test.YtpafkniapacfdaaGreatDoorSs37
import Derived.Test.YtpafkniapacfdaaGreatDoorSs41
import Derived.Test.YtpafkniapacfdaaGreatDoorSs45
import Derived.Test.YtpafkniapacfdaaGreatDoorSs34
import Derived.Test.YtpafkniapacfdaaGreatDoorSs32
import Derived.Test.YtpafkniapacfdaaGreatDoorSs12
import Derived.Test.YtpafkniapacfdaaGreatDoorSs44
import Derived.Test.YtpafkniapacfdaaGreatDoorSs42
import Derived.Test.YtpafkniapacfdaaGreatDoorSs8
import Derived.Test.YtpafkniapacfdaaGreatDoorSs29
import Derived.Test.YtpafkniapacfdaaGreatDoorSs40
import Derived.Test.YtpafkniapacfdaaGreatDoorSs46
import Derived.Test.YtpafkniapacfdaaGreatDoorSs35
import Derived.Test.YtpafkniapacfdaaGreatDoorSs33
import Derived.Test.YtpafkniapacfdaaGreatDoorSs25
import Derived.Test.YtpafkniapacfdaaGreatDoorSs27
namespace Go.Proofs.YtpafkniapacfdaaGreatDoor
open Go.RowKit
namespace Ve
theorem rows_of {w : World} {v : Value} {Q : List Raw} {L : List Ent} (I : Ixs w v Q L) : Q.map (fun r => r.1) = L.map fun e => e.1 := by
  refine List.ext_getElem (by rw [List.length_map, List.length_map]; exact I.ln) fun j h1 h2 => ?_
  rw [List.length_map] at h1 h2
  rw [List.getElem_map, List.getElem_map]
  exact (I.ok j h1 h2).m
theorem entQ_same {Q Q' : List Raw} {L : List Ent} (h : Q.map (fun r => r.1) = Q'.map (fun r => r.1)) (m : Bm) : entQ Q L m = entQ Q' L m := by unfold entQ; rw [isM_same h]
theorem sumL_same {Q Q' : List Raw} {L : List Ent} (h : Q.map (fun r => r.1) = Q'.map (fun r => r.1)) (R : List Bm) : sumL Q L R = sumL Q' L R := by
  unfold sumL
  refine List.map_congr_left fun m _ => ?_
  rw [entQ_same h]
theorem allX_same {Q Q' : List Raw} {L : List Ent} (h : Q.map (fun r => r.1) = Q'.map (fun r => r.1)) (R : List Bm) : allX Q L R = allX Q' L R := by unfold allX; rw [chkG_same h, sumL_same h]
theorem vfF_same {Q Q' : List Raw} {L : List Ent} (h : Q.map (fun r => r.1) = Q'.map (fun r => r.1)) (R : List Bm) (H : List Ln) : vfF Q L R H = vfF Q' L R H := by unfold vfF; rw [chkG_same h, sumL_same h]
theorem sumE_le (e : Ent) : sumE e ≤ 4294967295 := by have := crcL_lt (sumT e); unfold sumE; omega
theorem sumL_le (Q : List Raw) (L : List Ent) (R : List Bm) : ∀ x, x ∈ sumL Q L R → x.2 ≤ 4294967295 := fun x hx => by
  obtain ⟨m, _, rfl⟩ := List.mem_map.1 hx
  exact sumE_le _
theorem allX_le (Q : List Raw) (L : List Ent) (R : List Bm) : ∀ x, x ∈ allX Q L R → x.2 ≤ 4294967295 := fun x hx => by
  unfold allX at hx
  split at hx
  · exact sumL_le Q L R x hx
  · cases hx
theorem allX_len (Q : List Raw) (L : List Ent) (R : List Bm) : (allX Q L R).length ≤ R.length := by
  unfold allX
  split
  · rw [sumL_len]; exact Nat.le_refl _
  · exact Nat.zero_le _
theorem rdS_le (c : List UInt8) : (rdS c).2 ≤ 4294967295 := by
  unfold rdS
  split
  · split
    · show (valTo 0 c).toNat ≤ _
      omega
    · exact Nat.zero_le _
  · exact Nat.zero_le _
theorem rdW_le (W : List (List UInt8)) : (rdW W).2.2 ≤ 4294967295 := by
  unfold rdW
  split
  · split
    · exact rdS_le _
    · exact Nat.zero_le _
  · exact Nat.zero_le _
theorem rdT_le (t : List UInt8) : (rdT t).2.2 ≤ 4294967295 := by
  unfold rdT
  split
  · exact rdW_le _
  · exact Nat.zero_le _
theorem rdX_le (T : List (List UInt8)) : ∀ x, x ∈ rdX T → x.2 ≤ 4294967295 := fun x hx => by
  unfold rdX at hx
  split at hx
  · obtain ⟨t, _, rfl⟩ := List.mem_map.1 hx
    exact rdT_le t
  · cases hx
theorem rdX_len (T : List (List UInt8)) : (rdX T).length ≤ T.length := by
  unfold rdX
  split
  · rw [List.length_map]; exact Nat.le_refl _
  · exact Nat.zero_le _
theorem exW_le14 (o : Option Bm) (m : Bm) : exW o m ≤ 10 := by
  unfold exW
  split
  · split
    · exact Nat.zero_le _
    · split <;> decide
  · exact mErr_le m
theorem exE_le14 (L : List Bm) (i : Nat) : exE L i ≤ 10 := by
  unfold exE
  split
  · exact Nat.zero_le _
  · exact exW_le14 _ _
theorem txF_le (X : List Ln) : (txF X).1 ≤ 10 := codeE_le fun i => exE_le14 _ i
theorem rdS_err (c : List UInt8) : (rdS c).1 ≤ 10 := by
  unfold rdS
  split
  · split
    · exact Nat.zero_le _
    · show (2 : Nat) ≤ 10
      decide
  · show (1 : Nat) ≤ 10
    decide
theorem rdW_err (W : List (List UInt8)) : (rdW W).1 ≤ 10 := by
  unfold rdW
  split
  · split
    · exact Nat.zero_le _
    · exact rdS_err _
  · show (1 : Nat) ≤ 10
    decide
theorem rdT_err (t : List UInt8) : (rdT t).1 ≤ 10 := by
  unfold rdT
  split
  · exact rdW_err _
  · show (1 : Nat) ≤ 10
    decide
theorem lnEr_le (T : List (List UInt8)) (i : Nat) : lnEr T i ≤ 10 := by
  unfold lnEr
  split
  · exact Nat.zero_le _
  · split
    · exact rdT_err _
    · exact exW_le14 _ _
theorem rdF_le (T : List (List UInt8)) : (rdF T).1 ≤ 10 := codeE_le fun i => lnEr_le T i
theorem chkG_le14 (Q : List Raw) (L : List Ent) (R : List Bm) : (chkG Q L R).1 ≤ 10 := by
  unfold chkG
  split
  · exact chk_le Q L
  · exact codeE_le fun i => nonE_le Q R i
theorem vfW_le (H : List Ln) (x : Ln) : vfW H x ≤ 10 := by
  unfold vfW
  split
  · decide
  · split <;> decide
theorem vfE_le (H X : List Ln) (i : Nat) : vfE H X i ≤ 10 := by
  unfold vfE
  split
  · exact Nat.zero_le _
  · exact vfW_le _ _
theorem vfF_le (Q : List Raw) (L : List Ent) (R : List Bm) (H : List Ln) : (vfF Q L R H).1 ≤ 10 := by
  unfold vfF
  split
  · exact chkG_le14 Q L R
  · exact codeE_le fun i => vfE_le H _ i
structure TsK (w : World) (A : Nat → Addr) (m : Int) : Prop where
  s : Te w A m
  g : Gs w A
  r : Rg w
  t : Lib.TabIs Tryz.prog w powName .u64 Lib.pow10Tab
  n : Er.Sen w A
theorem TsK.below {w w' : World} {A : Nat → Addr} {m : Int} (h : TsK w A m) (hb : Below w.heap.size w w') : TsK w' A m := ⟨h.s.below hb, h.g.below hb, h.r.below hb, tab_below h.t hb, h.n.below hb⟩
end Ve
end Go.Proofs.YtpafkniapacfdaaGreatDoor


namespace Go.Proofs.YtpafkniapacfdaaGreatDoor
open Go.ChangeShapes Go.WideShapes Go.ChangeAt Go.RowKit
namespace Ve
theorem te_of_sen {W : World} {A : Nat → Addr} {m : Int} (h : Er.Sen W A) (hm : W.cell? ⟨12, 0, none⟩ = some (.int .i64 m)) : Te W A m :=
  ⟨⟨h.g0, h.g1, h.g2, h.g3, h.g4, h.g6, h.g7, h.et⟩, ⟨h.g0, h.g1, h.blk 0 (by omega), h.blk 1 (by omega), h.inj 0 1 (by omega) (by omega) (by omega), hm⟩⟩
def rngs : List (String × Nat × List UInt8) := [("strconv.ErrRange", 14, [118, 97, 108, 117, 101, 32, 111, 117, 116, 32, 111, 102, 32, 114, 97, 110, 103, 101])]
theorem rngs_named : ∀ x, x ∈ rngs → Tryz.prog.globalNamed x.1 = some x.2.1 ∧ (Tryz.prog.globals[x.2.1]?).map (·.type) = some 30 := by
  have h : (rngs.all fun x => Tryz.prog.globalNamed x.1 == some x.2.1 && (Tryz.prog.globals[x.2.1]?).map (·.type) == some 30) = true := by kernel_rfl
  intro x hx
  simpa using List.all_eq_true.1 h x hx
theorem rg_of {W : World} (rest : List (String × DataW Unit)) (hl : laidMet Tryz.prog ((rngs.map fun x => (x.1, DataW.iface "*errors.errorString" (.ptr (.agg [.lit (.string x.2.2)])))) ++ rest) W) : Rg W := by
  obtain ⟨ps, hl, hnd, hrows⟩ := hl
  obtain ⟨al, hlen, hsub, hall⟩ := Er.sens_rest Tryz.underlying30 rowS Tryz.underlying291 Tryz.underlying293 rfl rfl Tryz.underlying9 cellsS cellsStr rest rngs ps hl rngs_named hrows
  have hone : al.length = 1 := hlen
  exact ⟨_, _, (hall 0 _ _ rfl (List.getElem?_eq_getElem (by omega))).1⟩
theorem ts_of {W : World} (hl : laidMet Tryz.prog (("math/bits.deBruijn32tab", Rows.laid_math_bits_deBruijn32tab) :: ("math/bits.deBruijn64tab", Rows.laid_math_bits_deBruijn64tab) :: (powName, Lib.tabData .u64 Lib.pow10Tab) :: ("unicode/utf8.acceptRanges", Rows.laid_unicode_utf8_acceptRanges) ::
      ((tens.map fun x => (x.1, DataW.iface "*errors.errorString" (.ptr (.agg [.lit (.string x.2.2)])))) ++ [("strconv.ErrRange", Rows.laid_strconv_ErrRange), ("strconv.ErrSyntax", Rows.laid_strconv_ErrSyntax), ("unicode/utf8.first", Rows.laid_unicode_utf8_first)])) W) (hh : handlesMet Tryz.prog [("errors.errorType", Rows.laid_errors_errorType)] W)
    (hsh : W.ShapedOpen Tryz.prog) : ∃ A m, TsK W A m := by
  have htab := Lib.tabIs_of_head powAt gPt Tryz.underlying249 Tryz.underlying122 cellsU cellsPow hl.tail.tail
  have h4 := hl.tail.tail.tail.tail
  obtain ⟨A, hA⟩ := sen_of [("strconv.ErrRange", Rows.laid_strconv_ErrRange), ("strconv.ErrSyntax", Rows.laid_strconv_ErrSyntax), ("unicode/utf8.first", Rows.laid_unicode_utf8_first)] h4 hh
  obtain ⟨m, hm⟩ := ml_of hsh
  have h14 : laidMet Tryz.prog ((rngs.map fun x => (x.1, DataW.iface "*errors.errorString" (.ptr (.agg [.lit (.string x.2.2)])))) ++ [("strconv.ErrSyntax", Rows.laid_strconv_ErrSyntax), ("unicode/utf8.first", Rows.laid_unicode_utf8_first)]) W := h4.tail.tail.tail.tail.tail.tail.tail.tail.tail.tail
  exact ⟨A, m, te_of_sen hA hm, hA.g9, rg_of _ h14, htab, hA⟩
end Ve
end Go.Proofs.YtpafkniapacfdaaGreatDoor


namespace Go.Proofs.YtpafkniapacfdaaGreatDoor
open Go.RowKit
namespace Ve
structure RlG (w W : World) (v : Value) (X : List Ln) (pb : Nat) (cs : Array Value) : Prop where
  rp : Rp w W
  own : W.ownsRow (w.heap.size + 1) 51 3 v X.length (flatN .i64 X)
  tx : W.heap[pb]? = some (.cells cs 9 (0, 0))
theorem RlG.below {w W W' : World} {v : Value} {X : List Ln} {pb : Nat} {cs : Array Value} (h : RlG w W v X pb cs) (hb : Below W.heap.size W W') : RlG w W' v X pb cs :=
  ⟨h.rp.below hb, owns_below h.own hb, (hb.block _ (lt_of_blk h.tx)).trans h.tx⟩
theorem RlG.app {w wr W3 W4 : World} {v v' : Value} {X : List Ln} {x : Ln} {pb : Nat} {cs : Array Value} (h : RlG w wr v X pb cs) (hb : Below wr.heap.size wr W3) (hg : W3.grownBy W4 v.ownBlock)
    (hown : W4.ownsRow (w.heap.size + 1) 51 3 v' (X.length + 1) (flatN .i64 X ++ [.string x.1.1, .string x.1.2, .int .i64 (x.2 : Nat)])) : RlG w W4 v' (X ++ [x]) pb cs := by
  have hB : Below w.heap.size w W3 := h.rp.bl.trans (hb.mono h.rp.bl.size)
  have keep : ∀ b ob, some b ≠ v.ownBlock → wr.heap[b]? = some ob → W4.heap[b]? = some ob := fun b ob hne he => by
    have hbl := lt_of_blk he
    rw [hg.block b (Nat.lt_of_lt_of_le hbl hb.size) hne, hb.block b hbl]; exact he
  refine ⟨⟨hB.grown hg hB.size fun k hk => by have := (h.own.lt k hk).1; omega, keep _ _ (fun e => by have := (h.own.lt _ e.symm).1; omega) h.rp.e⟩, ?_, keep _ _ (fun e => own_ne3 h.own h.tx (by decide) e.symm) h.tx⟩
  rw [flatG_snoc, List.length_append]; exact hown
theorem piece_at {W : World} {pb : Nat} {cs : Array Value} {P : List ByteArray} (hc : cs.toList.take P.length = P.map Value.string) (h : W.heap[pb]? = some (.cells cs 9 (0, 0))) {i : Nat} (hi : i < P.length) : W.cell? ⟨pb, i, none⟩ = some (.string P[i]) := by
  have h1 : (cs.toList.take P.length)[i]? = (P.map Value.string)[i]? := by rw [hc]
  rw [List.getElem?_take, if_pos hi, List.getElem?_map, List.getElem?_eq_getElem hi] at h1
  simp only [World.cell?, h]
  rw [← Array.getElem?_toList, h1]
  simp
theorem bl_at {P : List ByteArray} {i : Nat} (h : i < P.length) : (bl P)[i]'(by simpa [bl] using h) = P[i].data.toList := by simp [bl]
theorem rdS_bad {c : List UInt8} (h : ¬ (digs c = true ∧ zero c = false ∧ c.length ≤ 10)) : rdS c = (1, 0) := by unfold rdS; rw [if_neg h]
theorem rdS_big {c : List UInt8} (h : digs c = true ∧ zero c = false ∧ c.length ≤ 10) (hv : ¬ valTo 0 c ≤ 4294967295) : rdS c = (2, 0) := by unfold rdS; rw [if_pos h, if_neg hv]
theorem rdS_ok {c : List UInt8} (h : digs c = true ∧ zero c = false ∧ c.length ≤ 10) (hv : valTo 0 c ≤ 4294967295) : rdS c = (0, (valTo 0 c).toNat) := by unfold rdS; rw [if_pos h, if_pos hv]
theorem vb_t {p : Prop} [Decidable p] (h : p) : Value.bool true = .bool (decide p) := by rw [decide_eq_true h]
theorem vb_f {p : Prop} [Decidable p] (h : ¬ p) : Value.bool false = .bool (decide p) := by rw [decide_eq_false h]
theorem val_le10 (l : List UInt8) (h : l.all dig = true) (hl : l.length ≤ 10) : 0 ≤ valTo 0 l ∧ valTo 0 l < 10000000000 := by
  have hb := valTo_bd l 0 h (Int.le_refl 0)
  have h1 : (10 : Int) ^ l.length ≤ 10 ^ 10 := by
    have : (10 : Nat) ^ l.length ≤ 10 ^ 10 := Nat.pow_le_pow_right (by decide) hl
    exact_mod_cast this
  refine ⟨by have := hb.1; omega, ?_⟩
  have := hb.2
  have e : ((10 : Int) ^ 10) = 10000000000 := by decide
  omega
theorem zero_no {s : ByteArray} (h : ¬ ∃ h : 1 < s.size, ((s[0].toNat : Int) == 48) = true) : zero s.data.toList = false := by
  cases hq : zero s.data.toList
  · rfl
  · exact absurd ((zero_eq s).1 hq) h
def goodN (c : List UInt8) : Prop := digs c = true ∧ zero c = false ∧ c.length ≤ 10
instance (c : List UInt8) : Decidable (goodN c) := by unfold goodN; infer_instance
theorem rdX_at {T : List (List UInt8)} (h : (rdF T).1 ≠ 0) : rdX T = [] := rdX_bad h
theorem ek_0 {Y : List Ln} {x : Ln} (h : Y.length = 0) (e : mErr x.1 = 0) : txE (Y ++ [x]) 0 = 0 := by
  obtain rfl := List.length_eq_zero_iff.1 h
  rw [List.nil_append, txE_0 (by simp)]
  exact exW_none e
theorem ek_1 {Y : List Ln} {x : Ln} {j : Nat} (h : Y.length = j + 1) (e : mErr x.1 = 0) : txE (Y ++ [x]) (j + 1) = if mAhead (Y[j]'(by omega)).1 x.1 then 0 else 8 := by
  rw [txE_1 (by simp; omega), List.getElem_append_left (by omega), List.getElem_append_right (by omega)]
  simp only [h, Nat.sub_self, List.getElem_cons_zero]
  exact exW_some e
set_option maxRecDepth 100000 in
set_option maxHeartbeats 8000000 in
theorem rrl_any (s : ByteArray) (w : World) (hs : s.size ≤ 500) :
    Calls Tryz.prog 22 #[.string s] w fun e w' => ∃ u, e = .returned (.tuple #[u, faultV (rdF (linesL s.data.toList))]) ∧ LnAt .i64 w' u (rdX (linesL s.data.toList)) ∧ Below w.heap.size w w' := by
  obtain ⟨i0, hi0, hz0, hz1, hz2⟩ := info_parts infoGLine
  have HR0 := hid (Rp.start w)
  have HCUT := hid (fun (t : ByteArray) (W : World) (h : t.size < 4294967281) => show Calls Tryz.prog 55 #[.string t, .int .u8 10] W fun e w' => ∃ v X, e = .returned v ∧ bl X = cutAt 10 t.data.toList ∧ w'.ownsRow W.heap.size 9 1 v X.length (X.map Value.string) ∧ Below W.heap.size W w' from rcut_any t 10 W h)
  have HCU2 := hid (fun (t : ByteArray) (W : World) (h : t.size < 4294967281) => show Calls Tryz.prog 55 #[.string t, .int .u8 32] W fun e w' => ∃ v X, e = .returned v ∧ bl X = cutAt 32 t.data.toList ∧ w'.ownsRow W.heap.size 9 1 v X.length (X.map Value.string) ∧ Below W.heap.size W w' from rcut_any t 32 W h)
  have HDG := hid (fun (t : ByteArray) (W : World) (h : t.size ≤ maxLen) => areDigits_any t W h)
  have HFN := hid (fun W => fine_any W)
  have HME := hid (fun (p v : ByteArray) (W : World) (h1 : p.size < 4294967281) (h2 : v.size < 4294967281) => modError_any p v W h1 h2)
  have HIA := hid (fun (p v q u : ByteArray) (W : World) (h1 : v.size < 999999) (h2 : u.size < 999999) => isAhead_any p v q u W h1 h2)
  obtain ⟨T, hT⟩ : ∃ T, T = linesL s.data.toList := ⟨_, rfl⟩
  have HTD := hid hT
  have HZ0 := hid (show (w.alloc (.cells #[.int .i64 0, .int .i64 0] 47)).heap.size = w.heap.size + 1 by simp)
  rw [← hT]
  clear hT
  have HAT := hid (fun k (h0 : ∀ j, j < k → lnEr T j = 0) (hk : k < T.length) (h : lnEr T k ≠ 0) => rdF_at h0 hk h)
  have HBD := hid (rdX_at (T := T))
  have HOK := hid (rdX_ok (T := T))
  have HSH := hid (fun k => lnOf_short (T := T.take k) (fun t ht => by have h1 := lines_sz s.data.toList t (by rw [← HTD.out]; exact List.mem_of_mem_take ht); rw [len_eq] at h1; omega))
  go_enter Tryz.func22, Tryz.ntmps22
  go_wp2_with fail
  refine (HCUT.out s _ (by omega)).mono ?_
  rintro e w1 ⟨xv, P, rfl, hP, hown, hb⟩
  have hne : P ≠ [] := fun e => cutAt_ne 10 s.data.toList (by rw [← hP, e]; rfl)
  obtain ⟨pb, cap, cs, rfl, hge, hblk, hcl⟩ : ∃ pb cap cs, xv = .slice (some ⟨pb, 0, none⟩) P.length cap ∧ w.heap.size + 1 ≤ pb ∧ w1.heap[pb]? = some (.cells cs 9 (0, 0)) ∧ cs.toList.take P.length = P.map Value.string := by
    obtain ⟨_, ⟨_, h0⟩ | ⟨g, cap, cur, e1, e2, e3, _, _, _, e4⟩⟩ := hown
    · exact absurd (List.length_eq_zero_iff.1 h0) hne
    · exact ⟨g, cap, cur, e1, by rw [← HZ0.out]; exact e2, e3, by rw [← e4, Nat.mul_one]⟩
  have HG0 := hid (show RlG w w1 (.slice none 0 0) (lnOf (T.take 0)) pb cs from ⟨HR0.out.below hb, World.ownsRow_nil _ _ _ _, hblk⟩)
  have HPC := hid (fun (W : World) (h : W.heap[pb]? = some (.cells cs 9 (0, 0))) (i : Nat) (hi : i < P.length) => piece_at hcl h hi)
  have HPL := hid (show P.length ≤ 501 by
    have h1 := cutAt_many 10 s.data.toList
    rw [← hP, len_eq] at h1
    simp only [bl, List.length_map] at h1
    omega)
  have HPZ := hid (fun i (hi : i < P.length) => show P[i].size ≤ 500 by
    have h1 := cutAt_le 10 s.data.toList P[i].data.toList (by rw [← hP, ← bl_at hi]; exact List.getElem_mem _)
    rw [len_eq, len_eq] at h1
    omega)
  have HPP := hid hP
  have hpos : 0 < P.length := List.length_pos_iff.2 hne
  clear hP hown hb hblk hcl hne
  go_wp2_with fail
  go_loopw [4, 6] (fun ov iv wr => ∃ i : Nat, i < P.length ∧ iv = .int .i64 i ∧ Hid (RlG w wr ov (lnOf (T.take i)) pb cs) ∧ Hid (∀ j, j < i → lnEr T j = 0)) (fun _ iv _ => P.length - (intOf iv).toNat)
  case atStart => exact ⟨0, hpos, rfl, HG0, hid (fun j hj => absurd hj (Nat.not_lt_zero _))⟩
  case round =>
    obtain ⟨i, hi, rfl, HG, HZ⟩ := hrel
    have hii := ix_pos i
    have hiI := ix_lt hi
    have y0 := HPC.out _ HG.out.tx i hi
    have hpl := HPL.out
    have hgw : IntKind.i64.wrap ((P.length : Int) - 1) = (P.length : Int) - 1 := by rw [IntKind.wrap_i64]; omega
    by_cases hlast : i + 1 = P.length
    · have heq : ((i : Int) == (P.length : Int) - 1) = true := by rw [beq_iff_eq]; omega
      by_cases hem : P[i].data.toList = []
      · have hl := rd_end HPP.out (n := i) (by simp [bl]; omega) (by rw [bl_at hi]; exact hem)
        rw [← HTD.out] at hl
        have hf : fstE (lnEr T) T.length = none := fstE_none (by rw [hl]; exact HZ.out)
        obtain ⟨hx1, hx2⟩ := HOK.out hf
        rw [List.take_of_length_le (by omega)] at HG
        have HX := hid hx1
        have HF := hid hx2
        have hpe : P[i] = ⟨#[]⟩ := str_ext (by rw [hem])
        rw [hpe] at y0
        clear hem hl hf hx1 hx2 hpe HZ
        go_wp2_with fail
        refine (HFN.out _).mono ?_
        rintro e w5 ⟨rfl, hb⟩
        have HG5 := hid (HG.out.below hb)
        clear hb
        obtain ⟨s0, s1, sf⟩ := HG5.out.rp.cells
        go_wp2_with fail
        refine bodyPost_ret (v := .tuple #[u4, .agg #[.int .i64 0, .int .i64 (-1)]]) (by simp [results, Tryz.results22, go_sem, s0, s1]) rfl ⟨_, by rw [HF.out]; rfl, ?_, put2S_below HG5.out.rp.bl (Nat.le_refl _)⟩
        rw [HX.out]
        have hne : some w.heap.size ≠ u4.ownBlock := fun e => by have := (HG5.out.own.lt _ e.symm).1; omega
        exact own_ln (own_setG (own_setG HG5.out.own hne) hne)
      · obtain ⟨hiT, hrd⟩ := rd_rest HPP.out (n := i) (by simp [bl]; omega) (by rw [bl_at hi]; exact hem)
        have hle : lnEr T i = 1 := by
          have h1 : (rdT (T[i]'(by rw [HTD.out]; exact hiT))).1 = 1 := by
            have : ∀ T', T' = linesL s.data.toList → ∀ h : i < T'.length, (rdT T'[i]).1 = 1 := fun T' e h => by subst e; rw [hrd]
            exact this T HTD.out _
          rw [lnEr_bad (by rw [HTD.out]; exact hiT) (by rw [h1]; decide), h1]
        have hf := HAT.out i HZ.out (by rw [HTD.out]; exact hiT) (by rw [hle]; decide)
        rw [hle] at hf
        have HF := hid hf
        have HX := hid (HBD.out (by rw [hf]; exact (by decide : (1 : Nat) ≠ 0)))
        have hpe : (P[i].toList == ([] : List UInt8)) = false := by rw [beq_eq_false_iff_ne, ByteArray.toList_eq]; exact hem
        have hpn : (P[i].toList != ([] : List UInt8)) = true := by rw [bne_iff_ne, ByteArray.toList_eq]; exact hem
        clear hem hf hle hrd hiT HZ
        generalize P[i] = p at *
        obtain ⟨s0, s1, sf⟩ := HG.out.rp.cells
        go_wp2_with fail
        refine bodyPost_ret (v := .tuple #[.slice none 0 0, .agg #[.int .i64 1, .int .i64 (i : Int)]]) (by simp [results, Tryz.results22, go_sem, s0, s1]) rfl ⟨_, by rw [HF.out]; rfl, by rw [HX.out]; exact LnAt.nil _ _ _, put2S_below HG.out.rp.bl (Nat.le_refl _)⟩
    · have heq : ((i : Int) == (P.length : Int) - 1) = false := by rw [beq_eq_false_iff_ne]; omega
      obtain ⟨hiT, hrd⟩ := rd_mid (s := s.data.toList) HPP.out (i := i) (by simp [bl]; omega)
      rw [bl_at hi] at hrd
      have hpz := HPZ.out i hi
      have HC := hid (HCU2.out P[i] wr (by omega))
      have hiT' : i < T.length := by rw [HTD.out]; exact hiT
      have hrd' : rdT T[i] = rdW (cutAt 32 P[i].data.toList) := by
        have : ∀ T', T' = linesL s.data.toList → ∀ h : i < T'.length, rdT T'[i] = rdW (cutAt 32 P[i].data.toList) := fun T' e h => by subst e; exact hrd
        exact this T HTD.out hiT'
      have HNX := hid (lnOf_next hiT')
      rw [hrd'] at HNX
      have HBW := hid (fun (h : (rdW (cutAt 32 P[i].data.toList)).1 ≠ 0) => by
        have h1 := lnEr_bad hiT' (by rw [hrd']; exact h)
        rw [hrd'] at h1
        have h2 := HAT.out i HZ.out hiT' (by rw [h1]; exact h)
        rw [h1] at h2
        exact (⟨h2, HBD.out (by rw [h2]; exact h)⟩ : rdF T = ((rdW (cutAt 32 P[i].data.toList)).1, some i) ∧ rdX T = []))
      have HGW := hid (fun (h : (rdW (cutAt 32 P[i].data.toList)).1 = 0) => by
        have h1 := lnEr_ok hiT' (by rw [hrd']; exact h)
        rw [hrd'] at h1
        exact (⟨h1, fun h2 => HAT.out i HZ.out hiT' h2⟩ : lnEr T i = txE (lnOf (T.take i) ++ [(rdW (cutAt 32 P[i].data.toList)).2]) i ∧ (lnEr T i ≠ 0 → rdF T = (lnEr T i, some i))))
      have HWL := hid (fun p (hp : p ∈ cutAt 32 P[i].data.toList) => show p.length ≤ 500 by
        have h1 := cutAt_le 32 P[i].data.toList p hp
        rw [len_eq] at h1; omega)
      clear hrd hrd' hiT
      generalize P[i] = p at *
      generalize cutAt 32 p.data.toList = C at *
      go_wp2_with fail
      refine HC.out.mono ?_
      rintro e w2 ⟨wv, W, rfl, hWC, hW, hb⟩
      have HG2 := hid (HG.out.below hb)
      have HTW := hid (own_tx hW)
      have hwl : W.length = C.length := by rw [← hWC]; simp [bl]
      obtain ⟨wa, wcp, rfl⟩ := own_slN hW
      clear hW hb y0
      by_cases hw3 : W.length = 3
      · obtain ⟨a, b, c, rfl⟩ := three_of hw3
        obtain ⟨qb, qo, hwa, q⟩ := HTW.out.cells (k := 0) (Nat.zero_lt_succ _)
        subst hwa
        have q0 : w2.cell? ⟨qb, qo, none⟩ = some (.string a) := q 0 (Nat.zero_lt_succ _)
        have q1 : w2.cell? ⟨qb, qo + 1, none⟩ = some (.string b) := q 1 (by simp)
        have q2 : w2.cell? ⟨qb, qo + 2, none⟩ = some (.string c) := q 2 (by simp)
        have hCe : C = [a.data.toList, b.data.toList, c.data.toList] := by rw [← hWC]; rfl
        have hc5 : c.size ≤ 500 := by
          have h := HWL.out c.data.toList (by rw [hCe]; simp)
          rw [len_eq] at h; exact h
        have ha5 : a.size ≤ 500 := by
          have h := HWL.out a.data.toList (by rw [hCe]; simp)
          rw [len_eq] at h; exact h
        have hb5 : b.size ≤ 500 := by
          have h := HWL.out b.data.toList (by rw [hCe]; simp)
          rw [len_eq] at h; exact h
        obtain ⟨D, hD⟩ : ∃ D, D = digs c.data.toList := ⟨_, rfl⟩
        have HDC := hid (HDG.out c w2 (by unfold maxLen; omega))
        rw [← hD] at HDC
        have HDD := hid hD
        have HCE := hid hCe
        have HZZ := hid (zero_eq c)
        have HLC := hid (len_eq c)
        clear q HTW hWC hwl hD hCe
        simp only [List.length_cons, List.length_nil, Nat.zero_add, Nat.reduceAdd]
        go_wp2_with fail
        refine HDC.out.mono ?_
        rintro e w3 ⟨rfl, rfl⟩
        go_upto_region 13 with fail
        go_cut [70] (fun bv wx => bv = .bool (decide (¬ goodN c.data.toList)) ∧ wx = w3)
        case first =>
          cases D
          · go_wp2_with fail
            go_meet
            case rel => exact ⟨vb_t (fun h => (by have := HDD.out; rw [h.1] at this; cases this)), rfl⟩
          · by_cases h10 : 10 < c.size
            · have hd10 : (10 : Int) < (c.size : Int) := by omega
              go_wp2_with fail
              go_meet
              case rel => exact ⟨vb_t (fun h => (by have h2 := h.2.2; rw [HLC.out] at h2; omega)), rfl⟩
            · have hd10 : ¬ (10 : Int) < (c.size : Int) := by omega
              by_cases h1 : 1 < c.size
              · have hd1 : (1 : Int) < (c.size : Int) := by omega
                have hp0 : 0 < c.size := by omega
                cases h2 : ((c[0].toNat : Int) == 48)
                · go_wp2_with fail
                  go_meet
                  case rel => exact ⟨vb_f (fun h => h ⟨HDD.out.symm, zero_no (fun ⟨_, h⟩ => (by rw [h2] at h; cases h)), (by rw [HLC.out]; omega)⟩), rfl⟩
                · go_wp2_with fail
                  go_meet
                  case rel => exact ⟨vb_t (fun h => (by have := HZZ.out.2 ⟨h1, h2⟩; rw [h.2.1] at this; cases this)), rfl⟩
              · have hd1 : ¬ (1 : Int) < (c.size : Int) := by omega
                go_wp2_with fail
                go_meet
                case rel => exact ⟨vb_f (fun h => h ⟨HDD.out.symm, zero_no (fun ⟨h, _⟩ => absurd h h1), (by rw [HLC.out]; omega)⟩), rfl⟩
        case rest =>
          obtain ⟨rfl, hwc⟩ := hcut
          subst hwc
          by_cases hg : goodN c.data.toList
          · rw [decide_eq_false (fun h => h hg)]
            have had : allDig c.data.toList = true := by have h := hg.1; unfold digs at h; simp at h; exact h.2
            have hl10 : c.data.toList.length ≤ 10 := hg.2.2
            have HGD := hid hg
            clear hg
            go_wp2_with fail
            go_loopw [9, 10] (fun nv kv wr' => ∃ k : Nat, k ≤ c.size ∧ kv = .int .i64 k ∧ nv = .int .i64 (valTo 0 (c.data.toList.take k)) ∧ wr' = wc) (fun _ kv _ => c.size - (intOf kv).toNat)
            case atStart => exact ⟨0, Nat.zero_le _, rfl, rfl, rfl⟩
            case round =>
              obtain ⟨k, hk, rfl, rfl, hwk⟩ := hrel
              subst hwk
              obtain ⟨v0, v1⟩ := val_le10 _ (dig_take c had k) (Nat.le_trans (by rw [List.length_take]; exact Nat.min_le_right _ _) hl10)
              by_cases hlk : k < c.size
              · obtain ⟨d0, d1⟩ := dig_at c had k hlk
                have HS := hid (valTo_snoc 0 (c.data.toList.take k) c[k])
                rw [← take_snoc c k hlk] at HS
                generalize hn : valTo 0 (c.data.toList.take k) = n at *
                clear hn
                go_wp2_with fail
                go_roundw
                case rel => first | exact ⟨k + 1, by omega, by go_num, by rw [HS.out], rfl⟩ | exact ⟨k + 1, by omega, by go_num, by rw [HS.out], trivial⟩
                case measure => simp [intOf]; omega
              · have hk2 : c.data.toList.take k = c.data.toList := List.take_of_length_le (by simp; omega)
                rw [hk2] at v0 v1 ⊢
                have hkI := ix_nlt hlk
                clear hk2 hlk hk
                have HRS := hid (show rdW C = if (rdS c.data.toList).1 = 0 then (0, ((bt a.data.toList, bt b.data.toList), (rdS c.data.toList).2)) else ((rdS c.data.toList).1, ln0) by rw [HCE.out]; rfl)
                have HVV := hid (show goodN c.data.toList → (¬ valTo 0 c.data.toList ≤ 4294967295 → rdS c.data.toList = (2, 0)) ∧ (valTo 0 c.data.toList ≤ 4294967295 → rdS c.data.toList = (0, (valTo 0 c.data.toList).toNat)) from fun h => ⟨rdS_big h, rdS_ok h⟩)
                have HVW := hid (HVV.out HGD.out)
                generalize valTo 0 c.data.toList = n at *
                have HTq := hid (fun W' (hW : Below wr.heap.size wr W') => (show (fun W' => W'.cell? ⟨qb, qo, none⟩ = some (.string a) ∧ W'.cell? ⟨qb, qo + 1, none⟩ = some (.string b)) W' from ⟨cell_below hW q0, cell_below hW q1⟩))
                clear q0 q1
                go_wp2_with fail
                go_region_held (fun W' => W'.cell? ⟨qb, qo, none⟩ = some (.string a) ∧ W'.cell? ⟨qb, qo + 1, none⟩ = some (.string b)) (first | exact HTq.out _ (below_drawn_of ((Below.refl wr.heap.size wr).alloc (Nat.le_refl _) _) 1) | exact HTq.out _ (below_drawn_of (((Below.refl wr.heap.size wr).alloc (Nat.le_refl _) _).setCell (p := ⟨wr.heap.size, 0, none⟩) (Nat.le_refl _) _) 1) | exact HTq.out _ (below_drawn_of ((((Below.refl wr.heap.size wr).alloc (Nat.le_refl _) _).setCell (p := ⟨wr.heap.size, 0, none⟩) (Nat.le_refl _) _).setCell (p := ⟨wr.heap.size, 1, none⟩) (Nat.le_refl _) _) 1) | exact HTq.out _ (below_drawn _ 1) | go_keep) (fail)
                all_goals
                  have HBb := hid (below_drawn_of ((Below.refl wr.heap.size wr).alloc (Nat.le_refl _) (.cells #[.string a, .string b] 42)) 1)
                  have HGb := hid (HG2.out.below HBb.out)
                  have HM0 := hid (show ((wr.alloc (.cells #[.string a, .string b] 42)).drew).heap[wr.heap.size]? = some (.cells #[.string a, .string b] 42 (0, 0)) from heap_alloc_new wr _)
                  obtain ⟨wb, hwb⟩ : ∃ wb, (wr.alloc (.cells #[.string a, .string b] 42)).drew = wb := ⟨_, rfl⟩
                  replace HGb := hid (show RlG w wb u4 (lnOf (T.take i)) pb cs by rw [← hwb]; exact HGb.out)
                  rw [hwb] at HM0 ⊢
                  obtain ⟨m0, m1, mf⟩ := box2S HM0.out
                  clear hwb HBb
                  by_cases hv : n ≤ 4294967295
                  · have hvI : ¬ (4294967295 : Int) < n := by omega
                    have hW : rdW C = (0, ((a, b), n.toNat)) := by rw [HRS.out, HVW.out.2 hv, if_pos rfl, bt_of, bt_of]
                    obtain ⟨hle, hfa⟩ := HGW.out (by rw [hW])
                    rw [hW] at hle
                    have HM := hid (HME.out a b wb (by omega) (by omega))
                    rw [show modErr a.data.toList b.data.toList = mErr (a, b) from rfl] at HM
                    by_cases e0 : mErr (a, b) = 0
                    · have hYl : (lnOf (T.take i)).length = i := by rw [lnOf_len, List.length_take]; omega
                      rw [hW] at HNX
                      have HIN := hid (show i + 1 < P.length by omega)
                      have HNN := hid (show ((n.toNat : Nat) : Int) = n by omega)
                      have HZS := hid (fun h => zero_nextS (E := lnEr T) (k := i) HZ.out h)
                      rw [e0] at HM
                      have hFA := HBD.out
                      have HSY := hid (HSH.out i)
                      clear hW
                      dsimp only at HNX hle
                      generalize lnOf (T.take i) = Y at *
                      have HYL := hid (show Y.length ≤ 1000 by omega)
                      rcases Nat.eq_zero_or_pos i with hi0 | hip
                      · subst hi0
                        have HZN := hid (HZS.out (by rw [hle]; exact ek_0 hYl e0))
                        clear hle hfa e0 hFA HZS hYl
                        go_wp2_with fail
                        refine HM.out.mono ?_
                        rintro e w5 ⟨rfl, hb⟩
                        have HG5 := hid (HGb.out.below hb)
                        have k0 := cell_below hb m0
                        have k1 := cell_below hb m1
                        obtain ⟨oa, oc, hov⟩ := own_slN HG5.out.own
                        subst hov
                        clear hb m0 m1 mf
                        go_wp2_with (at_builtin; refine wpList_append_own _ rfl _ _ 49 rfl (w.heap.size + 1) 51 i0 _ 3 40 Tryz.underlying49 hi0 hz0 hz1 hz2 rfl (by decide) _ _ _ rfl (HG5.out.own.alloc _) ⟨w5.heap.size, 0, none⟩ 1 1 [.string a, .string b, .int .i64 n] rfl rfl (World.news_of_block (heap_alloc_new _ _)) (by intro u hu; simp at hu; rcases hu with rfl | rfl | rfl <;> rfl) (Nat.le_trans (Nat.add_le_add_right HYL.out 1) (by unfold maxLen; decide)) (by have := HYL.out; omega) (by have := HG5.out.rp.bl.size; have := lt_of_blk HG5.out.rp.e; simp; omega) ?_)
                        intro v' w6 hown hgrow _
                        have HGN := hid (HG5.out.app (x := ((a, b), n.toNat)) ((Below.refl w5.heap.size w5).alloc (Nat.le_refl _) _) hgrow (by rw [HNN.out]; exact hown))
                        clear hown hgrow
                        go_wp2_with fail
                        go_roundw
                        case rel => first | exact ⟨_, HIN.out, nx_idx HIN.out (by omega), by rw [HNX.out]; exact HGN, HZN⟩ | exact ⟨_, HIN.out, nr_idx _, by rw [HNX.out]; exact HGN, HZN⟩
                        case measure => first | exact nx_meas HIN.out (by omega) | exact nr_meas HIN.out | (simp [intOf]; omega)
                      · obtain ⟨j, rfl⟩ : ∃ j, i = j + 1 := ⟨i - 1, by omega⟩
                        rw [ek_1 hYl e0] at hle
                        have hjY : j < Y.length := by omega
                        have hqu := HSY.out Y[j] (List.getElem_mem hjY)
                        obtain ⟨oa, oc, hov⟩ := own_slN HGb.out.own
                        subst hov
                        obtain ⟨ob, oo, hoa, q0, q1, -⟩ := (own_ln HGb.out.own).cells hjY
                        subst hoa
                        have HA := hid (fun W => HIA.out Y[j].1.1 Y[j].1.2 a b W hqu.2 (by omega))
                        rw [show aheadB Y[j].1.1.data.toList Y[j].1.2.data.toList a.data.toList b.data.toList = mAhead Y[j].1 (a, b) from rfl] at HA
                        generalize mAhead Y[j].1 (a, b) = z at *
                        generalize Y[j] = y at *
                        obtain ⟨⟨q, u⟩, n'⟩ := y
                        dsimp only at q0 q1 HA
                        have g0 : ((j + 1 : Nat) : Int) = (j : Int) + 1 := rfl
                        have g1 : (0 : Int) ≤ (j : Int) := by omega
                        have g2 : (j : Int) < (Y.length : Int) := by omega
                        have g3 : (j : Int) + 1 - 1 = (j : Int) := by omega
                        have g4 : (0 : Int) < (j : Int) + 1 := by omega
                        have gw : IntKind.i64.wrap (j : Int) = (j : Int) := by rw [IntKind.wrap_i64]; omega
                        clear hYl hjY hqu e0 HSY
                        rw [g0]
                        cases z
                        · rw [if_neg (by simp)] at hle
                          have HF := hid (hfa (by rw [hle]; decide))
                          rw [hle] at HF
                          have HX := hid (hFA (by rw [HF.out]; exact (by decide : (8 : Nat) ≠ 0)))
                          clear hle hfa hFA HZS
                          go_wp2_with fail
                          refine HM.out.mono ?_
                          rintro e w5 ⟨rfl, hb⟩
                          have HG5 := hid (HGb.out.below hb)
                          have HT7 := hid (fun W' (hW : Below w5.heap.size w5 W') => (show (fun W' => W'.cell? ⟨ob, oo + j * 3, none⟩ = some (.string q) ∧ W'.cell? ⟨ob, oo + j * 3 + 1, none⟩ = some (.string u) ∧ W'.cell? ⟨wr.heap.size, 0, none⟩ = some (.string a) ∧ W'.cell? ⟨wr.heap.size, 1, none⟩ = some (.string b)) W' from ⟨cell_below hW (cell_below hb q0), cell_below hW (cell_below hb q1), cell_below hW (cell_below hb m0), cell_below hW (cell_below hb m1)⟩))
                          clear hb q0 q1 m0 m1 mf
                          go_wp2_with fail
                          go_region_held (fun W' => W'.cell? ⟨ob, oo + j * 3, none⟩ = some (.string q) ∧ W'.cell? ⟨ob, oo + j * 3 + 1, none⟩ = some (.string u) ∧ W'.cell? ⟨wr.heap.size, 0, none⟩ = some (.string a) ∧ W'.cell? ⟨wr.heap.size, 1, none⟩ = some (.string b)) (first | exact HT7.out _ HRa.out | exact HT7.out _ (below_drawn _ 1)) (first
                            | (go_at_call 53; refine (HA.out w5.drew).mono ?_; rintro e w6 ⟨rfl, hb⟩; have HRa := hid ((below_drawn w5 1).trans (hb.mono (Nat.le_refl _))); clear hb))
                          all_goals
                            have HG6 := hid (HG5.out.below HRa.out)
                            obtain ⟨s0, s1, sf⟩ := HG6.out.rp.cells
                            go_wp2_with fail
                            refine bodyPost_ret (v := .tuple #[.slice none 0 0, .agg #[.int .i64 8, .int .i64 ((j : Int) + 1)]]) (by simp [results, Tryz.results22, go_sem, s0, s1]) rfl ⟨_, by rw [HF.out]; rfl, by rw [HX.out]; exact LnAt.nil _ _ _, put2S_below HG6.out.rp.bl (Nat.le_refl _)⟩
                        · rw [if_pos rfl] at hle
                          have HZN := hid (HZS.out hle)
                          clear hle hfa hFA HZS
                          go_wp2_with fail
                          refine HM.out.mono ?_
                          rintro e w5 ⟨rfl, hb⟩
                          have HG5 := hid (HGb.out.below hb)
                          have HT7 := hid (fun W' (hW : Below w5.heap.size w5 W') => (show (fun W' => W'.cell? ⟨ob, oo + j * 3, none⟩ = some (.string q) ∧ W'.cell? ⟨ob, oo + j * 3 + 1, none⟩ = some (.string u) ∧ W'.cell? ⟨wr.heap.size, 0, none⟩ = some (.string a) ∧ W'.cell? ⟨wr.heap.size, 1, none⟩ = some (.string b)) W' from ⟨cell_below hW (cell_below hb q0), cell_below hW (cell_below hb q1), cell_below hW (cell_below hb m0), cell_below hW (cell_below hb m1)⟩))
                          clear hb q0 q1 m0 m1 mf
                          go_wp2_with fail
                          go_region_held (fun W' => W'.cell? ⟨ob, oo + j * 3, none⟩ = some (.string q) ∧ W'.cell? ⟨ob, oo + j * 3 + 1, none⟩ = some (.string u) ∧ W'.cell? ⟨wr.heap.size, 0, none⟩ = some (.string a) ∧ W'.cell? ⟨wr.heap.size, 1, none⟩ = some (.string b)) (first | exact HT7.out _ HRa.out | exact HT7.out _ (below_drawn _ 1)) (first
                            | (go_at_call 53; refine (HA.out w5.drew).mono ?_; rintro e w6 ⟨rfl, hb⟩; have HRa := hid ((below_drawn w5 1).trans (hb.mono (Nat.le_refl _))); clear hb))
                          all_goals
                            have HG6 := hid (HG5.out.below HRa.out)
                            obtain ⟨-, -, k0, k1⟩ := HT7.out _ HRa.out
                            clear HRa
                            go_wp2_with (at_builtin; refine wpList_append_own _ rfl _ _ 49 rfl (w.heap.size + 1) 51 i0 _ 3 40 Tryz.underlying49 hi0 hz0 hz1 hz2 rfl (by decide) _ _ _ rfl (HG6.out.own.alloc _) ⟨w6.heap.size, 0, none⟩ 1 1 [.string a, .string b, .int .i64 n] rfl rfl (World.news_of_block (heap_alloc_new _ _)) (by intro u hu; simp at hu; rcases hu with rfl | rfl | rfl <;> rfl) (Nat.le_trans (Nat.add_le_add_right HYL.out 1) (by unfold maxLen; decide)) (by have := HYL.out; omega) (by have := HG6.out.rp.bl.size; have := lt_of_blk HG6.out.rp.e; simp; omega) ?_)
                            intro v' w7 hown hgrow _
                            have HGN := hid (HG6.out.app (x := ((a, b), n.toNat)) ((Below.refl w6.heap.size w6).alloc (Nat.le_refl _) _) hgrow (by rw [HNN.out]; exact hown))
                            clear hown hgrow
                            go_wp2_with fail
                            go_roundw
                            case rel => first | exact ⟨_, HIN.out, nx_idx HIN.out (by omega), by rw [HNX.out]; exact HGN, HZN⟩ | exact ⟨_, HIN.out, nr_idx _, by rw [HNX.out]; exact HGN, HZN⟩
                            case measure => first | exact nx_meas HIN.out (by omega) | exact nr_meas HIN.out | (simp [intOf]; omega)
                    · have ek : lnEr T i = mErr (a, b) := by
                        rw [hle]
                        have hl : (lnOf (T.take i)).length = i := by rw [lnOf_len, List.length_take]; omega
                        unfold txE exE
                        rw [List.map_append, List.getElem?_append_right (by rw [List.length_map, hl]; exact Nat.le_refl _), List.length_map, hl, Nat.sub_self]
                        exact exW_bad e0
                      have HF := hid (hfa (by rw [ek]; exact e0))
                      rw [ek] at HF
                      have HX := hid (HBD.out (by rw [HF.out]; exact e0))
                      have hpos2 : (0 : Int) < ((mErr (a, b) : Nat) : Int) := by omega
                      have hne0 : (((mErr (a, b) : Nat) : Int) == 0) = false := by rw [beq_eq_false_iff_ne]; omega
                      clear ek hle hfa e0 hW
                      generalize mErr (a, b) = z at *
                      go_wp2_with fail
                      refine HM.out.mono ?_
                      rintro e w5 ⟨rfl, hb⟩
                      have HG5 := hid (HGb.out.below hb)
                      clear hb
                      obtain ⟨s0, s1, sf⟩ := HG5.out.rp.cells
                      go_wp2_with fail
                      refine bodyPost_ret (v := .tuple #[.slice none 0 0, .agg #[.int .i64 (z : Int), .int .i64 (i : Int)]]) (by simp [results, Tryz.results22, go_sem, s0, s1]) rfl ⟨_, by rw [HF.out]; rfl, by rw [HX.out]; exact LnAt.nil _ _ _, put2S_below HG5.out.rp.bl (Nat.le_refl _)⟩
                  · have hvI : (4294967295 : Int) < n := by omega
                    have hW : rdW C = (2, ln0) := by rw [HRS.out, HVW.out.1 (by omega), if_neg (by decide)]
                    obtain ⟨hf, hx⟩ := HBW.out (by rw [hW]; exact (by decide : (2 : Nat) ≠ 0))
                    rw [hW] at hf
                    have HF := hid hf
                    have HX := hid hx
                    clear hf hx hW
                    obtain ⟨s0, s1, sf⟩ := HGb.out.rp.cells
                    go_wp2_with fail
                    refine bodyPost_ret (v := .tuple #[.slice none 0 0, .agg #[.int .i64 2, .int .i64 (i : Int)]]) (by simp [results, Tryz.results22, go_sem, s0, s1]) rfl ⟨_, by rw [HF.out]; rfl, by rw [HX.out]; exact LnAt.nil _ _ _, put2S_below HGb.out.rp.bl (Nat.le_refl _)⟩
          · rw [decide_eq_true hg]
            have hS := rdS_bad hg
            obtain ⟨hf, hx⟩ := HBW.out (by rw [HCE.out]; unfold rdW; dsimp only; rw [hS]; exact (by decide : (1 : Nat) ≠ 0))
            rw [HCE.out] at hf
            unfold rdW at hf
            dsimp only at hf
            rw [hS] at hf
            have HF := hid (show rdF T = (1, some i) from hf)
            have HX := hid hx
            obtain ⟨s0, s1, sf⟩ := HG2.out.rp.cells
            clear hf hx hS
            go_wp2_with fail
            refine bodyPost_ret (v := .tuple #[.slice none 0 0, .agg #[.int .i64 1, .int .i64 (i : Int)]]) (by simp [results, Tryz.results22, go_sem, s0, s1]) rfl ⟨_, by rw [HF.out]; rfl, by rw [HX.out]; exact LnAt.nil _ _ _, put2S_below HG2.out.rp.bl (Nat.le_refl _)⟩
      · obtain ⟨hf, hx⟩ := HBW.out (by rw [rdW_no (by omega)]; decide)
        rw [rdW_no (by omega)] at hf
        have HF := hid hf
        have HX := hid hx
        have hn3 : ((W.length : Int) != 3) = true := by rw [bne_iff_ne]; omega
        obtain ⟨s0, s1, sf⟩ := HG2.out.rp.cells
        clear hf hx
        go_wp2_with fail
        refine bodyPost_ret (v := .tuple #[.slice none 0 0, .agg #[.int .i64 1, .int .i64 (i : Int)]]) (by simp [results, Tryz.results22, go_sem, s0, s1]) rfl ⟨_, by rw [HF.out]; rfl, by rw [HX.out]; exact LnAt.nil _ _ _, put2S_below HG2.out.rp.bl (Nat.le_refl _)⟩
end Ve
end Go.Proofs.YtpafkniapacfdaaGreatDoor


namespace Go.Proofs.YtpafkniapacfdaaGreatDoor
open Go.RowKit
namespace Ve
theorem intsT_no {c d : Int} {k : Nat} {s : ByteArray} (h : (#[Value.int .i64 c, .int .i64 d] : Array Value)[k]? = some (.string s)) : False := by
  match k, h with
  | 0, h => simp at h
  | 1, h => simp at h
  | k + 2, h => simp at h
theorem cell_setT {W : World} {b o g p : Nat} {x v : Value} (h : W.cell? ⟨b, o, none⟩ = some v) (hne : b ≠ g) : (W.setCell ⟨g, p, none⟩ x).cell? ⟨b, o, none⟩ = some v := by
  unfold World.cell? at h ⊢
  rw [Below.heap_setCell _ _ _ _ hne]
  exact h
theorem LnAt.setT {K : IntKind} {W : World} {v : Value} {X : List Ln} {g : Nat} {c d : Int} {T : TypeId} (h : LnAt K W v X) (hg : W.heap[g]? = some (.cells #[.int .i64 c, .int .i64 d] T (0, 0))) (a b : Value) : LnAt K ((W.setCell ⟨g, 0, none⟩ a).setCell ⟨g, 1, none⟩ b) v X := by
  obtain ⟨a', c', e, hc, h⟩ := h
  refine ⟨a', c', e, hc, fun hL => ?_⟩
  obtain ⟨bk, o, e2, h2⟩ := h hL
  refine ⟨bk, o, e2, fun j hj => ?_⟩
  obtain ⟨c0, c1, c2⟩ := h2 j hj
  have hne : bk ≠ g := fun e => by
    subst e
    rw [Lib.cell_of_heap hg] at c0
    exact intsT_no c0
  exact ⟨cell_setT (cell_setT c0 hne) hne, cell_setT (cell_setT c1 hne) hne, cell_setT (cell_setT c2 hne) hne⟩
theorem ErrAt.setT {W : World} {A : Nat → Addr} {y : Value} {c : Nat} {o : Option Nat} {g : Nat} {z : Value} {n : Int} {T : TypeId} (h : ErrAt W A y c o) (hg : W.heap[g]? = some (.cells #[z, .int .i64 n] T (0, 0))) (a b : Value) : ErrAt ((W.setCell ⟨g, 0, none⟩ a).setCell ⟨g, 1, none⟩ b) A y c o := by
  cases o with
  | none => exact h
  | some i =>
    obtain ⟨h0, f, rfl, h1, h2⟩ := h
    have hne : f ≠ g := fun e => by
      subst e
      obtain ⟨_, g1, _⟩ := box2S hg
      obtain ⟨a', ha⟩ := errA_ne A h0
      rw [g1, ha] at h2
      cases h2
    exact ⟨h0, f, rfl, cell_setT (cell_setT h1 hne) hne, cell_setT (cell_setT h2 hne) hne⟩
theorem box_setT {W : World} {g : Nat} {x y : Value} {T : TypeId} (a b : Value) (h : W.heap[g]? = some (.cells #[x, y] T (0, 0))) : ((W.setCell ⟨g, 0, none⟩ a).setCell ⟨g, 1, none⟩ b).heap[g]? = some (.cells #[a, b] T (0, 0)) := by
  rw [set_blockS (set_blockS h)]; rfl
def okLi (x : Li) : Prop := x.1.1.size ≤ 70 ∧ x.1.2.size ≤ 60 ∧ 0 ≤ x.2 ∧ x.2 ≤ 4294967295
theorem liN_short {X : List Li} (h : ∀ x, x ∈ X → okLi x) : shortN (liN X) := fun x hx => by
  obtain ⟨y, hy, rfl⟩ := List.mem_map.1 hx
  have := h y hy
  exact ⟨by have := this.1; show y.1.1.size < _; omega, by have := this.2.1; show y.1.2.size < _; omega⟩
theorem liN_le {X : List Li} (h : ∀ x, x ∈ X → okLi x) : ∀ x, x ∈ liN X → x.2 ≤ 4294967295 := fun x hx => by
  obtain ⟨y, hy, rfl⟩ := List.mem_map.1 hx
  have := (h y hy).2.2
  show y.2.toNat ≤ _
  omega
set_option maxRecDepth 100000 in
set_option maxHeartbeats 4000000 in
theorem st_main (Q0 : List Raw) (L : List Ent) (R : List Bm) (X : List Li) (s : ByteArray) (v rv hv : Value) (A : Nat → Addr) (m : Int) (w : World) (K : TsK w A m) (I : Ixs w v Q0 L) (em : EmI Q0 L) (hr : MsAt w rv R) (hem : Em rv R) (hh : LiAt w hv X) (hok : okI L = true) (hokR : okLN 15 R = true) (hX : X.length ≤ 20) (hs : s.size ≤ 500) :
    Calls Tryz.prog 4 #[v, rv, hv, .string s] w fun e w' => e = .returned (.bool true) ∧ Below w.heap.size w w' := by
  have hn101 : L.length ≤ 101 := by rcases (okI_iff hok).1 with h | h <;> omega
  have hR15 := (okLN_iff hokR).1
  have hOKE : ∀ e, e ∈ L → OkE e := fun e he => by
    have h2 := hok
    unfold okI at h2
    rw [Bool.and_eq_true] at h2
    exact okE_is (List.all_eq_true.1 h2.2 e he)
  have g1 : ¬ (20 : Int) < (X.length : Int) := by omega
  have g2 : ¬ (500 : Int) < (s.size : Int) := by omega
  have HIN := hid (summed_any A m w K.s K.g)
  have HLO := hid (fun W (h : Below w.heap.size w W) => longIQ_any Q0 L v W (I.below h))
  rw [if_pos hok] at HLO
  have HLM := hid (fun W (h : Below w.heap.size w W) => longN_any 15 (by decide) R rv W (hr.below h))
  rw [if_pos hokR] at HLM
  have HOW := hid (fun W (h : Below w.heap.size w W) => ownI_any Q0 L v W (by omega) (I.below h) em (okI_fits hok))
  have HOM := hid (fun W (h : Below w.heap.size w W) => ownM_any rv R W (by omega) (hr.below h) hem)
  have HRS := hid (fun W (h : Below w.heap.size w W) => rss_any Q0 L R v rv W (by omega) (okI_sh hok) hOKE (I.below h) (by omega) (hr.below h))
  have HAL := hid (fun Q u ru W (h : Below w.heap.size w W) (J : Ixs W u Q L) (hm : MsAt W ru R) => all_any Q L R u ru A m W (by omega) (by omega) (okI_sh hok) hOKE (K.below h).s J hm)
  have HVF := hid (fun Q u ru H av W (h : Below w.heap.size w W) (J : Ixs W u Q L) (hm : MsAt W ru R) (hH : H.length ≤ 1000000) (ha : LnAt .u32 W av H) => verify_any Q L R H u ru av A m W (by omega) (by omega) hH (okI_sh hok) hOKE (K.below h).s (K.below h).g J hm ha)
  have HVO := hid (fun H W (h : Below w.heap.size w W) (hH : H.length ≤ 1000) (ha : LnAt .i64 W hv H) => rvo_any Q0 L R H v rv hv W (by omega) (okI_sh hok) hOKE (I.below h) (by omega) (hr.below h) hH ha)
  have HFA := hid (fun r W y (h : Below w.heap.size w W) (hr : r.1 ≤ 10) (he : ErrAt W A y r.1 r.2) => faulted3_any A y r W (K.below h).n he hr)
  have HRD := hid (fun W (h : Below w.heap.size w W) => sread_any s A m W (by omega) (K.below h).s (K.below h).r)
  have HRL := hid (fun W => rrl_any s W hs)
  have HKK := hid (fun W (h : Below w.heap.size w W) => K.below h)
  have HI := hid I
  have HOK := hid hOKE
  have HLI := hid (fun W (h : Below w.heap.size w W) => hh.below h)
  have HLN := hid (fun (h : ∀ x, x ∈ X → okLi x) => hh.ln fun x hx => (h x hx).2.2.1)
  have HR0 := hid (rows_of I)
  have HRB := hid (show R.length ≤ 15 from hR15)
  have HXB := hid hX
  have HSB := hid hs
  have HLB := hid hn101
  have HQL := hid I.ln
  obtain ⟨a0, c0, hv0, -⟩ := id I.es
  subst hv0
  obtain ⟨ra, rc, hrv, -⟩ := id hr
  subst hrv
  obtain ⟨ha, hc, hhv, -⟩ := id hh
  subst hhv
  clear K I em hr hem hh hok hokR hOKE hX hs hn101 hR15
  go_enter Tryz.func4, Tryz.ntmps4
  go_wp2_with fail
  refine HIN.out.mono ?_
  rintro e w1 ⟨rfl, hb⟩
  have HB1 := hid hb
  clear hb HIN
  go_wp2_with fail
  refine (HLO.out w1 HB1.out).mono ?_
  rintro e w2 ⟨rfl, rfl⟩
  clear HLO
  go_wp2_with fail
  refine (HLM.out w2 HB1.out).mono ?_
  rintro e w3 ⟨rfl, rfl⟩
  clear HLM
  go_wp2_with fail
  go_loopw [10] (fun iv wr => ∃ i : Nat, i ≤ X.length ∧ iv = .int .i64 i ∧ Hid (∀ j (h : j < X.length), j < i → okLi X[j]) ∧ wr = w3) (fun iv _ => X.length - (intOf iv).toNat)
  case atStart => exact ⟨0, Nat.zero_le _, rfl, hid (fun j _ h => absurd h (Nat.not_lt_zero _)), rfl⟩
  case round =>
    obtain ⟨i, hi, rfl, HOL, hwr⟩ := hrel
    subst hwr
    by_cases hlt : i < X.length
    · have hiI := ix_lt hlt
      have hii := ix_pos i
      obtain ⟨b, o, hha, y0, y1, y2⟩ := (HLI.out _ HB1.out).cells hlt
      subst hha
      have HNX := hid (fun (hx : okLi X[i]) j (hj : j < X.length) (h : j < i + 1) => show okLi X[j] by
        rcases Nat.lt_or_ge j i with h1 | h1
        · exact HOL.out j hj h1
        · have : j = i := by omega
          subst this
          exact hx)
      generalize X[i] = x at *
      obtain ⟨⟨p, q⟩, n⟩ := x
      dsimp only at y0 y1 y2
      have HLT := hid hlt
      clear hlt HOL
      by_cases h1 : 70 < p.size
      · have k1 : (70 : Int) < (p.size : Int) := by omega
        go_wp2_with fail
        go_ret
        exact ⟨rfl, HB1.out⟩
      · have k1 : ¬ (70 : Int) < (p.size : Int) := by omega
        by_cases h2 : 60 < q.size
        · have k2 : (60 : Int) < (q.size : Int) := by omega
          go_wp2_with fail
          go_ret
          exact ⟨rfl, HB1.out⟩
        · have k2 : ¬ (60 : Int) < (q.size : Int) := by omega
          by_cases h3 : n < 0
          · go_wp2_with fail
            go_ret
            exact ⟨rfl, HB1.out⟩
          · by_cases h4 : (4294967295 : Int) < n
            · go_wp2_with fail
              go_ret
              exact ⟨rfl, HB1.out⟩
            · have HN := hid (HNX.out ⟨by show p.size ≤ 70; omega, by show q.size ≤ 60; omega, by show 0 ≤ n; omega, by show n ≤ 4294967295; omega⟩)
              clear HNX
              go_wp2_with fail
              go_roundw
              case rel => first | exact ⟨i + 1, HLT.out, nx_idx HLT.out (by have := HXB.out; omega), HN, trivial⟩ | exact ⟨i + 1, HLT.out, nr_idx i, HN, trivial⟩ | exact ⟨i + 1, HLT.out, nx_idx HLT.out (by have := HXB.out; omega), HN, rfl⟩ | exact ⟨i + 1, HLT.out, nr_idx i, HN, rfl⟩
              case measure => first | exact nx_meas HLT.out (by have := HXB.out; omega) | exact nr_meas HLT.out
    · have hiI := ix_nlt hlt
      have hALL : ∀ x, x ∈ X → okLi x := fun x hx => by
        obtain ⟨j, hj, rfl⟩ := List.getElem_of_mem hx
        exact HOL.out j hj (by omega)
      have HHN := hid (HLN.out hALL)
      have HHS := hid (liN_short hALL)
      have HHL := hid (liN_le hALL)
      have HHB := hid (show (liN X).length ≤ 20 by rw [liN_len]; exact HXB.out)
      clear hALL HLN HOL
      obtain ⟨H, hH⟩ : ∃ H, liN X = H := ⟨_, rfl⟩
      rw [hH] at HHN HHS HHL HHB
      clear hH
      go_wp2_with fail
      refine (HOW.out _ HB1.out).mono ?_
      rintro e w4 ⟨ou, Q, rfl, hO, hb⟩
      have HB4 := hid (HB1.out.trans (hb.mono HB1.out.size))
      have HQQ := hid ((rows_of hO.ixs).trans HR0.out.symm)
      have HJ := hid hO.ixs
      have HQ2 := hid hO.ixs.ln
      obtain ⟨oa, oc, hou, -⟩ := id hO.ixs.es
      subst hou
      clear hb hO HOW
      go_wp2_with fail
      go_loopw [12] (fun iv wr => ∃ k : Nat, k ≤ 5 ∧ iv = .int .i64 k ∧ Hid (Below w4.heap.size w4 wr)) (fun iv _ => 5 - (intOf iv).toNat)
      case atStart => exact ⟨0, by omega, rfl, hid (Below.refl _ _)⟩
      case round =>
        obtain ⟨k, hk5, rfl, H4⟩ := hrel
        have HBr := hid (HB4.out.trans (H4.out.mono HB4.out.size))
        have hkk := ix_pos k
        go_upto_region 11 with fail
        go_cut [92] (fun bv wx => bv = .bool (decide (k < Q0.length ∧ k < 5)) ∧ wx = wr)
        case first =>
          by_cases h1 : k < Q0.length
          · have hI := ix_lt h1
            by_cases h2 : k < 5
            · have h2I : (k : Int) < 5 := by omega
              go_wp2_with fail
              go_meet
              case rel => exact ⟨vb_t ⟨h1, h2⟩, rfl⟩
            · have h2I : ¬ (k : Int) < 5 := by omega
              go_wp2_with fail
              go_meet
              case rel => exact ⟨vb_f (fun h => h2 h.2), rfl⟩
          · have hI := ix_nlt h1
            go_wp2_with fail
            go_meet
            case rel => exact ⟨vb_f (fun h => h1 h.1), rfl⟩
        case rest =>
          obtain ⟨rfl, hwc⟩ := hcut
          subst hwc
          by_cases hk : k < Q0.length ∧ k < 5
          · rw [decide_eq_true hk]
            obtain ⟨hkQ0, hk4⟩ := hk
            have hkL : k < L.length := by rw [← HQL.out]; exact hkQ0
            have hkQ : k < Q.length := by rw [HQ2.out]; exact hkL
            have hI0 := ix_lt hkQ0
            have hI1 := ix_lt hkQ
            obtain ⟨eb, eo, hea⟩ : ∃ b o, a0 = some ⟨b, o, none⟩ := by
              obtain ⟨a', c', e, _, _, h⟩ := HI.out.es
              injection e with q1 q2 q3
              obtain ⟨b, o, h4, _⟩ := h (fun h => by rw [h] at hkQ0; simp at hkQ0)
              exact ⟨b, o, by rw [q1, h4]⟩
            subst hea
            obtain ⟨fb, fo, hfa⟩ : ∃ b o, oa = some ⟨b, o, none⟩ := by
              obtain ⟨a', c', e, _, _, h⟩ := HJ.out.es
              injection e with q1 q2 q3
              obtain ⟨b, o, h4, _⟩ := h (fun h => by rw [h] at hkQ; simp at hkQ)
              exact ⟨b, o, by rw [q1, h4]⟩
            subst hfa
            obtain ⟨ra1, rc1, pa1, pc1, z0, z1, z2, z3, z4, hrq, hpk⟩ := ent_at HI.out hkQ0 hkL
            obtain ⟨ra2, rc2, pa2, pc2, y0, y1, y2, y3, y4, hrq2, hpk2⟩ := ent_at HJ.out hkQ hkL
            have HO1 := hid (fun W (h : Below w4.heap.size w4 W) => of_any L[k] ra2 rc2 pa2 pc2 A m W (HKK.out W (HB4.out.trans (h.mono HB4.out.size))).s (HOK.out _ (List.getElem_mem hkL)) (hrq2.below h) (hpk2.below h))
            have HO2 := hid (fun W (h : Below w.heap.size w W) => rso_any L[k] ra1 rc1 pa1 pc1 W (HOK.out _ (List.getElem_mem hkL)) (hrq.below h) (hpk.below h))
            have hsm := sumE_le L[k]
            have HK5 := hid hk4
            generalize sumE L[k] = sm at *
            generalize L[k] = e at *
            clear hrq hpk hrq2 hpk2 hkL hk5
            obtain ⟨⟨ep, eq⟩, eR, eP, ek⟩ := e
            dsimp only at z0 z1 z2 z3 z4 y0 y1 y2 y3 y4 HO1 HO2
            have gw : IntKind.i64.wrap (sm : Int) = (sm : Int) := by rw [IntKind.wrap_i64]; omega
            have gne : ((sm : Int) != (sm : Int)) = false := by rw [bne_self_eq_false]
            have HT := hid (fun W' (hW : Below wc.heap.size wc W') => (show (fun W' => W'.cell? ⟨eb, eo + k * 5, none⟩ = some (.string ep) ∧ W'.cell? ⟨eb, eo + k * 5 + 1, none⟩ = some (.string eq) ∧ W'.cell? ⟨eb, eo + k * 5 + 2, none⟩ = some (.slice ra1 eR.length rc1) ∧ W'.cell? ⟨eb, eo + k * 5 + 3, none⟩ = some (.slice pa1 eP.length pc1) ∧ W'.cell? ⟨eb, eo + k * 5 + 4, none⟩ = some (.bool ek) ∧ W'.cell? ⟨fb, fo + k * 5, none⟩ = some (.string ep) ∧ W'.cell? ⟨fb, fo + k * 5 + 1, none⟩ = some (.string eq) ∧ W'.cell? ⟨fb, fo + k * 5 + 2, none⟩ = some (.slice ra2 eR.length rc2) ∧ W'.cell? ⟨fb, fo + k * 5 + 3, none⟩ = some (.slice pa2 eP.length pc2) ∧ W'.cell? ⟨fb, fo + k * 5 + 4, none⟩ = some (.bool ek)) W' from
              let B := HBr.out.trans (hW.mono HBr.out.size)
              let B4 := H4.out.trans (hW.mono H4.out.size)
              ⟨cell_below B z0, cell_below B z1, cell_below B z2, cell_below B z3, cell_below B z4, cell_below B4 y0, cell_below B4 y1, cell_below B4 y2, cell_below B4 y3, cell_below B4 y4⟩))
            have HW := hid (fun W' (hW : Below wc.heap.size wc W') => HBr.out.trans (hW.mono HBr.out.size))
            have HW4 := hid (fun W' (hW : Below wc.heap.size wc W') => H4.out.trans (hW.mono H4.out.size))
            clear z0 z1 z2 z3 z4 y0 y1 y2 y3 y4 hsm hkQ0 hkQ hk4
            go_wp2_with fail
            go_region_held (fun W' => W'.cell? ⟨eb, eo + k * 5, none⟩ = some (.string ep) ∧ W'.cell? ⟨eb, eo + k * 5 + 1, none⟩ = some (.string eq) ∧ W'.cell? ⟨eb, eo + k * 5 + 2, none⟩ = some (.slice ra1 eR.length rc1) ∧ W'.cell? ⟨eb, eo + k * 5 + 3, none⟩ = some (.slice pa1 eP.length pc1) ∧ W'.cell? ⟨eb, eo + k * 5 + 4, none⟩ = some (.bool ek) ∧ W'.cell? ⟨fb, fo + k * 5, none⟩ = some (.string ep) ∧ W'.cell? ⟨fb, fo + k * 5 + 1, none⟩ = some (.string eq) ∧ W'.cell? ⟨fb, fo + k * 5 + 2, none⟩ = some (.slice ra2 eR.length rc2) ∧ W'.cell? ⟨fb, fo + k * 5 + 3, none⟩ = some (.slice pa2 eP.length pc2) ∧ W'.cell? ⟨fb, fo + k * 5 + 4, none⟩ = some (.bool ek)) (first | exact HT.out _ HRa.out | exact HT.out _ (below_drawn _ 1)) (first
              | (go_at_call 16; refine (HO1.out _ (HW4.out _ (by first | exact HRa.out | exact below_drawn _ 1))).mono ?_; rintro e w5 ⟨rfl, hb⟩; first | (have HRa := hid (HRa.out.trans (hb.mono HRa.out.size)); clear hb) | (have HRa := hid ((below_drawn wc 1).trans (hb.mono (Nat.le_refl _))); clear hb))
              | (go_at_call 17; refine (HO2.out _ (HW.out _ (by first | exact HRa.out | exact below_drawn _ 1))).mono ?_; rintro e w5 ⟨rfl, hb⟩; first | (have HRa := hid (HRa.out.trans (hb.mono HRa.out.size)); clear hb) | (have HRa := hid ((below_drawn wc 1).trans (hb.mono (Nat.le_refl _))); clear hb)))
            all_goals
              have HBn := hid (HW4.out _ HRa.out)
              clear HRa
              go_wp2_with fail
              go_roundw
              case rel => first | exact ⟨k + 1, HK5.out, nx_idx HK5.out (by omega), HBn⟩ | exact ⟨k + 1, HK5.out, nr_idx k, HBn⟩
              case measure => first | exact nx_meas HK5.out (by omega) | exact nr_meas HK5.out
          · rw [decide_eq_false hk]
            clear hk hk5
            go_wp2_with fail
            refine (HOM.out wc HBr.out).mono ?_
            rintro e w5 ⟨ru, rfl, hown, -, hb⟩
            have HB5 := hid (HBr.out.trans (hb.mono HBr.out.size))
            have H45 := hid (H4.out.trans (hb.mono H4.out.size))
            have HP := hid (HAL.out Q _ ru w5 HB5.out (HJ.out.below H45.out) (own_ms hown))
            rw [chkG_same HQQ.out, allX_same HQQ.out] at HP
            obtain ⟨ua, un, uc, hru⟩ := own_sl hown
            subst hru
            clear hb hown HAL H4 HBr
            go_wp2_with fail
            refine HP.out.mono ?_
            rintro e w6 ⟨x, y, rfl, hox, he, hb⟩
            have HB6 := hid (HB5.out.trans (hb.mono HB5.out.size))
            have H46 := hid (H45.out.trans (hb.mono H45.out.size))
            have HX6 := hid (own_ln hox)
            have HE6 := hid he
            obtain ⟨xa, xc, hxx⟩ := own_slN hox
            subst hxx
            clear hb hox he HP HB5 H45
            go_wp2_with fail
            refine (HRS.out _ HB6.out).mono ?_
            rintro e w7 ⟨u, rfl, hu, hb⟩
            have HB7 := hid (HB6.out.trans (hb.mono HB6.out.size))
            have H47 := hid (H46.out.trans (hb.mono H46.out.size))
            have HX7 := hid (HX6.out.below hb)
            have HE7 := hid (HE6.out.below hb)
            have HU7 := hid hu
            obtain ⟨va, vc, hvv, -⟩ := id hu
            subst hvv
            have HCG := hid (chkG_le14 Q0 L R)
            have HZL := hid (show (allX Q0 L R).length ≤ 1000000 by have h1 := allX_len Q0 L R; have h2 := HRB.out; omega)
            have HZB := hid (allX_le Q0 L R)
            clear hu hb HX6 HE6 HB6 H46 HRS
            generalize allX Q0 L R = ZX at *
            obtain ⟨f1, hf1⟩ : ∃ f1, chkG Q0 L R = f1 := ⟨_, rfl⟩
            rw [hf1] at HE7 HCG ⊢
            clear hf1
            obtain ⟨b1, b2⟩ := f1
            have HF1 := hid (fun W y (h : Below w.heap.size w W) (he : ErrAt W A y b1 b2) => HFA.out (b1, b2) W y h HCG.out he)
            unfold faultV at HF1 ⊢
            simp only at HF1 HE7 ⊢
            generalize ((b1 : Nat) : Int) = F1 at *
            generalize atOf b2 = F2 at *
            have HA8 := hid ((Below.refl w7.heap.size w7).alloc (Nat.le_refl _) (.cells #[.int .i64 F1, .int .i64 F2] 47))
            have HB8 := hid (HB7.out.trans (HA8.out.mono HB7.out.size))
            have H48 := hid (H47.out.trans (HA8.out.mono H47.out.size))
            have HFB8 := hid (heap_alloc_new w7 (.cells #[.int .i64 F1, .int .i64 F2] 47))
            have HX8 := hid (HX7.out.below HA8.out)
            have HU8 := hid (HU7.out.below HA8.out)
            have HE8 := hid (HE7.out.below HA8.out)
            have HG0 := hid HB7.out.size
            have HG4 := hid H47.out.size
            clear HA8 HB7 H47 HX7 HU7 HE7
            go_wp2_with fail
            generalize w7.alloc (.cells #[.int .i64 F1, .int .i64 F2] 47) = w8 at *
            refine (HF1.out _ _ HB8.out HE8.out).mono ?_
            rintro e w9 ⟨rfl, hb⟩
            have HB9 := hid (HB8.out.trans (hb.mono HB8.out.size))
            have H49 := hid (H48.out.trans (hb.mono H48.out.size))
            have HFB9 := hid ((hb.block _ (lt_of_blk HFB8.out)).trans HFB8.out)
            have HSM := hid (saml_any ZX _ _ w9 HZL.out HZB.out (HX8.out.below hb) (HU8.out.below hb))
            clear hb HF1 HB8 H48 HFB8 HX8 HU8 HE8
            go_wp2_with fail
            refine HSM.out.mono ?_
            rintro e w10 ⟨rfl, hb⟩
            have HB10 := hid (HB9.out.trans (hb.mono HB9.out.size))
            have H410 := hid (H49.out.trans (hb.mono H49.out.size))
            have HFB10 := hid ((hb.block _ (lt_of_blk HFB9.out)).trans HFB9.out)
            have HAS := hid (asl_any H _ w10 (by have := HHB.out; omega) HHL.out (HHN.out.below HB10.out))
            clear hb HSM HB9 H49 HFB9
            go_wp2_with fail
            refine HAS.out.mono ?_
            rintro e w11 ⟨u, rfl, hown, hb⟩
            have HB11 := hid (HB10.out.trans (hb.mono HB10.out.size))
            have H411 := hid (H410.out.trans (hb.mono H410.out.size))
            have HFB11 := hid ((hb.block _ (lt_of_blk HFB10.out)).trans HFB10.out)
            have HTX := hid (stext_any H u A m w11 (by have := HHB.out; omega) HHS.out HHL.out (HKK.out _ HB11.out).s (HKK.out _ HB11.out).t (own_ln hown))
            obtain ⟨sa, sc, hss⟩ := own_slN hown
            subst hss
            clear hb hown HAS HB10 H410 HFB10
            go_wp2_with fail
            refine HTX.out.mono ?_
            rintro e w12 ⟨y2, rfl, he, hb⟩
            have HB12 := hid (HB11.out.trans (hb.mono HB11.out.size))
            have H412 := hid (H411.out.trans (hb.mono H411.out.size))
            have HFB12 := hid ((hb.block _ (lt_of_blk HFB11.out)).trans HFB11.out)
            have HE12 := hid he
            have HLT := hid (rlt_any H _ w12 (by have := HHB.out; omega) HHS.out HHL.out (HHN.out.below HB12.out))
            clear hb he HTX HB11 H411 HFB11
            go_wp2_with fail
            refine HLT.out.mono ?_
            rintro e w13 ⟨rfl, hb⟩
            have HB13 := hid (HB12.out.trans (hb.mono HB12.out.size))
            have H413 := hid (H412.out.trans (hb.mono H412.out.size))
            have HFB13 := hid ((hb.block _ (lt_of_blk HFB12.out)).trans HFB12.out)
            have HE13 := hid (HE12.out.below hb)
            have HCT := hid (txF_le H)
            clear hb HLT HB12 H412 HFB12 HE12
            generalize bt (txT H) = TT at *
            have gst : (TT.toList != TT.toList) = false := by rw [bne_self_eq_false]
            obtain ⟨f2, hf2⟩ : ∃ f2, txF H = f2 := ⟨_, rfl⟩
            rw [hf2] at HE13 HCT ⊢
            clear hf2
            obtain ⟨d1, d2⟩ := f2
            have HF2 := hid (fun W y (h : Below w.heap.size w W) (he : ErrAt W A y d1 d2) => HFA.out (d1, d2) W y h HCT.out he)
            unfold faultV at HF2 ⊢
            simp only at HF2 HE13 ⊢
            generalize ((d1 : Nat) : Int) = G1 at *
            generalize atOf d2 = G2 at *
            obtain ⟨f0, f1', ff⟩ := box2S HFB13.out
            have HB14 := hid (put2S_below (x := .int .i64 G1) (y := .int .i64 G2) HB13.out HG0.out)
            have H414 := hid (put2S_below (x := .int .i64 G1) (y := .int .i64 G2) H413.out HG4.out)
            have HE14 := hid (HE13.out.setT HFB13.out (.int .i64 G1) (.int .i64 G2))
            have HFB14 := hid (box_setT (.int .i64 G1) (.int .i64 G2) HFB13.out)
            go_wp2_with fail
            generalize (w13.setCell ⟨w7.heap.size, 0, none⟩ (.int .i64 G1)).setCell ⟨w7.heap.size, 1, none⟩ (.int .i64 G2) = w14 at *
            clear f0 f1' ff HFB13 HE13 HB13 H413
            refine (HF2.out _ _ HB14.out HE14.out).mono ?_
            rintro e w15 ⟨rfl, hb⟩
            have HB15 := hid (HB14.out.trans (hb.mono HB14.out.size))
            have H415 := hid (H414.out.trans (hb.mono H414.out.size))
            have HFB15 := hid ((hb.block _ (lt_of_blk HFB14.out)).trans HFB14.out)
            clear hb HF2 HB14 H414 HFB14 HE14
            go_wp2_with fail
            refine (HRD.out _ HB15.out).mono ?_
            rintro e w16 ⟨x3, y3, rfl, hox, he, hb⟩
            have HB16 := hid (HB15.out.trans (hb.mono HB15.out.size))
            have H416 := hid (H415.out.trans (hb.mono H415.out.size))
            have HFB16 := hid ((hb.block _ (lt_of_blk HFB15.out)).trans HFB15.out)
            have HX16 := hid (own_ln hox)
            have HE16 := hid he
            obtain ⟨xa3, xc3, hxx3⟩ := own_slN hox
            subst hxx3
            clear hb hox he HRD HB15 H415 HFB15
            go_wp2_with fail
            refine (HRL.out _).mono ?_
            rintro e w17 ⟨u3, rfl, hu, hb⟩
            have HB17 := hid (HB16.out.trans (hb.mono HB16.out.size))
            have H417 := hid (H416.out.trans (hb.mono H416.out.size))
            have HFB17 := hid ((hb.block _ (lt_of_blk HFB16.out)).trans HFB16.out)
            have HX17 := hid (HX16.out.below hb)
            have HE17 := hid (HE16.out.below hb)
            have HU17 := hid hu
            obtain ⟨va3, vc3, hvv3, -⟩ := id hu
            subst hvv3
            have HCR := hid (rdF_le (linesL s.data.toList))
            have HYL := hid (show (rdX (linesL s.data.toList)).length ≤ 1000000 by have h1 := rdX_len (linesL s.data.toList); have h2 := lines_len s.data.toList; rw [len_eq] at h2; have h3 := HSB.out; omega)
            have HYB := hid (rdX_le (linesL s.data.toList))
            clear hu hb HX16 HE16 HB16 H416 HFB16 HRL
            generalize rdX (linesL s.data.toList) = ZY at *
            obtain ⟨f3, hf3⟩ : ∃ f3, rdF (linesL s.data.toList) = f3 := ⟨_, rfl⟩
            rw [hf3] at HE17 HCR ⊢
            clear hf3
            obtain ⟨e1, e2⟩ := f3
            have HF3 := hid (fun W y (h : Below w.heap.size w W) (he : ErrAt W A y e1 e2) => HFA.out (e1, e2) W y h HCR.out he)
            unfold faultV at HF3 ⊢
            simp only at HF3 HE17 ⊢
            generalize ((e1 : Nat) : Int) = K1 at *
            generalize atOf e2 = K2 at *
            obtain ⟨f0, f1', ff⟩ := box2S HFB17.out
            have HB18 := hid (put2S_below (x := .int .i64 K1) (y := .int .i64 K2) HB17.out HG0.out)
            have H418 := hid (put2S_below (x := .int .i64 K1) (y := .int .i64 K2) H417.out HG4.out)
            have HE18 := hid (HE17.out.setT HFB17.out (.int .i64 K1) (.int .i64 K2))
            have HX18 := hid (HX17.out.setT HFB17.out (.int .i64 K1) (.int .i64 K2))
            have HU18 := hid (HU17.out.setT HFB17.out (.int .i64 K1) (.int .i64 K2))
            go_wp2_with fail
            generalize (w17.setCell ⟨w7.heap.size, 0, none⟩ (.int .i64 K1)).setCell ⟨w7.heap.size, 1, none⟩ (.int .i64 K2) = w18 at *
            clear f0 f1' ff HFB17 HE17 HX17 HU17 HB17 H417
            refine (HF3.out _ _ HB18.out HE18.out).mono ?_
            rintro e w19 ⟨rfl, hb⟩
            have HB19 := hid (HB18.out.trans (hb.mono HB18.out.size))
            have H419 := hid (H418.out.trans (hb.mono H418.out.size))
            have HSM := hid (saml_any ZY _ _ w19 HYL.out HYB.out (HX18.out.below hb) (HU18.out.below hb))
            clear hb HF3 HB18 H418 HX18 HU18 HE18
            go_wp2_with fail
            refine HSM.out.mono ?_
            rintro e w20 ⟨rfl, hb⟩
            have HB20 := hid (HB19.out.trans (hb.mono HB19.out.size))
            have H420 := hid (H419.out.trans (hb.mono H419.out.size))
            clear hb HSM HB19 H419
            go_wp2_with fail
            refine (HOM.out _ HB20.out).mono ?_
            rintro e w21 ⟨ru2, rfl, hown, -, hb⟩
            have HB21 := hid (HB20.out.trans (hb.mono HB20.out.size))
            have H421 := hid (H420.out.trans (hb.mono H420.out.size))
            have HM21 := hid (own_ms hown)
            obtain ⟨ua2, un2, uc2, hru2⟩ := own_sl hown
            subst hru2
            have HAS := hid (asl_any H _ w21 (by have := HHB.out; omega) HHL.out (HHN.out.below HB21.out))
            clear hb hown HOM HB20 H420
            go_wp2_with fail
            refine HAS.out.mono ?_
            rintro e w22 ⟨u5, rfl, hown, hb⟩
            have HB22 := hid (HB21.out.trans (hb.mono HB21.out.size))
            have H422 := hid (H421.out.trans (hb.mono H421.out.size))
            have HVF2 := hid (HVF.out Q _ _ H u5 w22 HB22.out (HJ.out.below H422.out) (HM21.out.below hb) (by have := HHB.out; omega) (own_ln hown))
            rw [vfF_same HQQ.out] at HVF2
            obtain ⟨sa2, sc2, hss2⟩ := own_slN hown
            subst hss2
            clear hb hown HAS HVF HB21 H421 HM21
            go_wp2_with fail
            refine HVF2.out.mono ?_
            rintro e w23 ⟨y6, rfl, he, hb⟩
            have HB23 := hid (HB22.out.trans (hb.mono HB22.out.size))
            have HE23 := hid he
            have HVO2 := hid (HVO.out H w23 HB23.out (by have := HHB.out; omega) (HHN.out.below HB23.out))
            clear hb he HVF2 HB22 H422 HVO
            go_wp2_with fail
            refine HVO2.out.mono ?_
            rintro e w24 ⟨rfl, hb⟩
            have HB24 := hid (HB23.out.trans (hb.mono HB23.out.size))
            have HF4 := hid (HFA.out (vfF Q0 L R H) w24 y6 HB24.out (vfF_le Q0 L R H) (HE23.out.below hb))
            clear hb HE23 HB23 HVO2
            unfold faultV at HF4 ⊢
            generalize (((vfF Q0 L R H).1 : Nat) : Int) = M1 at *
            generalize atOf (vfF Q0 L R H).2 = M2 at *
            go_wp2_with fail
            refine HF4.out.mono ?_
            rintro e w25 ⟨rfl, hb⟩
            have HB25 := hid (HB24.out.trans (hb.mono HB24.out.size))
            clear hb
            go_wp2_with fail
            go_ret
            exact ⟨rfl, HB25.out⟩
end Ve
end Go.Proofs.YtpafkniapacfdaaGreatDoor
