
import Derived.Test.YtanponneancajaaGreatDoorBt5
import Derived.Test.YtanponneancajaaGreatDoorBt6
import Derived.Test.YtanponneancajaaGreatDoorBt9
import Derived.Test.YtanponneancajaaGreatDoorBt10
import Derived.Test.YtanponneancajaaGreatDoorBt1
import Derived.Test.YtanponneancajaaGreatDoorRefF
import Derived.Test.YtanponneancajaaGreatDoorBt7
import Derived.Deep.RegionHeld
import Derived.Test.YtanponneancajaaGreatDoorBt3
namespace Go.Proofs.YtanponneancajaaGreatDoor
open Go.RowKit Go.Maps
namespace Ve
def keyR (r : Raw) : Bm × Bool := (r.1, r.2.2.2)
def bestK (K : List (Bm × Bool)) : List (Bm × Bool) := if 0 < ((K.filter fun k => !k.2).filter fun k => !preB k.1.2).length then (K.filter fun k => !k.2).filter fun k => !preB k.1.2 else if 0 < (K.filter fun k => !k.2).length then K.filter fun k => !k.2 else K
theorem key_filter (P : Bm × Bool → Bool) (p : Raw → Bool) (h : ∀ r, p r = P (keyR r)) (Q : List Raw) : (Q.filter p).map keyR = (Q.map keyR).filter P := by
  rw [List.filter_map]
  congr 1
  apply List.filter_congr
  intro r _
  exact h r
theorem key_best (R : List Raw) : (bestR R).map keyR = bestK (R.map keyR) := by
  have e1 := key_filter (fun k => !k.2) isS (fun _ => rfl) R
  have e2 := key_filter (fun k => !preB k.1.2) isD (fun _ => rfl) (R.filter isS)
  rw [e1] at e2
  unfold bestR bestK
  rw [← e2, ← e1, List.length_map, List.length_map]
  split
  · rfl
  · split <;> rfl
theorem key_ver (R : List Raw) : verL R = (R.map keyR).map fun k => k.1.2 := by
  unfold verL
  rw [List.map_map]; rfl
theorem key_mod {Q Q' : List Raw} (h : Q.map keyR = Q'.map keyR) : Q.map (fun r => r.1) = Q'.map (fun r => r.1) := by
  have := congrArg (List.map Prod.fst) h
  rw [List.map_map, List.map_map] at this
  exact this
theorem keys_of {w : World} {v : Value} {Q : List Raw} {L : List Ent} (I : Ixs w v Q L) : Q.map keyR = L.map fun e => (e.1, e.2.2.2) := by
  apply List.ext_getElem
  · simp [I.ln]
  · intro j h1 h2
    have hq : j < Q.length := by simpa using h1
    have hl : j < L.length := by rw [← I.ln]; exact hq
    simp only [List.getElem_map]
    have h := I.ok j hq hl
    exact Prod.ext h.m h.bk
end Ve
end Go.Proofs.YtanponneancajaaGreatDoor


namespace Go.Proofs.YtanponneancajaaGreatDoor
open Go.RowKit Go.Maps
namespace Ve
theorem ordV_three {s t : List UInt8} (hs : verErr s = 0) (ht : verErr t = 0) : ordV s t < 0 ∨ s = t ∨ ordV t s < 0 := by
  rcases ordV_range s t with h | h | h
  · exact Or.inl (by omega)
  · exact Or.inr (Or.inl ((ordV_zero hs ht).1 h))
  · exact Or.inr (Or.inr (by rw [ordV_swap s t]; omega))
theorem sorted_ex : ∀ L : List ByteArray, (∀ x, x ∈ L → verErr x.data.toList = 0) → ∃ X : List ByteArray, rises (bl X) ∧ ∀ t, t ∈ bl X ↔ t ∈ bl L
  | [], _ => ⟨[], List.Pairwise.nil, fun t => Iff.rfl⟩
  | x :: L, h => by
    obtain ⟨X, h1, h2⟩ := sorted_ex L fun y hy => h y (List.mem_cons_of_mem _ hy)
    have hx := h x (List.mem_cons_self ..)
    have hv : ∀ y, y ∈ X → verErr y.data.toList = 0 := fun y hy => by
      have := (h2 y.data.toList).1 (List.mem_map.2 ⟨y, hy, rfl⟩)
      obtain ⟨z, hz, e⟩ := List.mem_map.1 this
      rw [← e]; exact h z (List.mem_cons_of_mem _ hz)
    let lo := X.filter fun y => decide (ordV y.data.toList x.data.toList < 0)
    let hi := X.filter fun y => decide (ordV x.data.toList y.data.toList < 0)
    have hr : X.Pairwise fun a b => ordV a.data.toList b.data.toList < 0 := by
      have := h1
      unfold rises bl at this
      exact List.pairwise_map.1 this
    refine ⟨lo ++ (x :: hi), ?_, fun t => ?_⟩
    · unfold rises bl
      rw [List.pairwise_map, List.pairwise_append]
      refine ⟨List.Pairwise.filter _ hr, List.pairwise_cons.2 ⟨fun b hb => of_decide_eq_true (List.mem_filter.1 hb).2, List.Pairwise.filter _ hr⟩, fun a ha b hb => ?_⟩
      have ha2 := of_decide_eq_true (List.mem_filter.1 ha).2
      rcases List.mem_cons.1 hb with rfl | hb
      · exact ha2
      · exact ordV_trans ha2 (of_decide_eq_true (List.mem_filter.1 hb).2)
    · constructor
      · intro ht
        obtain ⟨y, hy, rfl⟩ := List.mem_map.1 ht
        rcases List.mem_append.1 hy with hy | hy
        · exact List.mem_cons_of_mem _ ((h2 _).1 (List.mem_map.2 ⟨y, (List.mem_filter.1 hy).1, rfl⟩))
        · rcases List.mem_cons.1 hy with rfl | hy
          · exact List.mem_cons_self ..
          · exact List.mem_cons_of_mem _ ((h2 _).1 (List.mem_map.2 ⟨y, (List.mem_filter.1 hy).1, rfl⟩))
      · intro ht
        rcases List.mem_cons.1 ht with rfl | ht
        · exact List.mem_map.2 ⟨x, List.mem_append_right _ (List.mem_cons_self ..), rfl⟩
        · obtain ⟨y, hy, rfl⟩ := List.mem_map.1 ((h2 t).2 ht)
          refine List.mem_map.2 ?_
          rcases ordV_three (hv y hy) hx with h3 | h3 | h3
          · exact ⟨y, List.mem_append_left _ (List.mem_filter.2 ⟨hy, decide_eq_true h3⟩), rfl⟩
          · exact ⟨x, List.mem_append_right _ (List.mem_cons_self ..), h3.symm⟩
          · exact ⟨y, List.mem_append_right _ (List.mem_cons_of_mem _ (List.mem_filter.2 ⟨hy, decide_eq_true h3⟩)), rfl⟩
theorem kept_ex {L : List ByteArray} (h : ∀ x, x ∈ L → verErr x.data.toList = 0) : ∃ X, Kept L L.length X := by
  obtain ⟨X, h1, h2⟩ := sorted_ex L h
  refine ⟨X, h1, fun t => ?_⟩
  rw [h2, List.take_length]
  refine ⟨fun ht => ⟨ht, ?_⟩, fun ht => ht.1⟩
  obtain ⟨y, hy, rfl⟩ := List.mem_map.1 ht
  exact h y hy
end Ve
end Go.Proofs.YtanponneancajaaGreatDoor


namespace Go.Proofs.YtanponneancajaaGreatDoor
open Go.RowKit Go.Maps
namespace Ve
theorem keptT_ex {Q : List Raw} (g : Good Q) (t : ByteArray) : ∃ Y, KeptT Q t Y :=
  kept_ex (verL_ok g fun r hr => ofP_sub r (bestR_sub hr))
theorem verL_same {Q Q' : List Raw} (h : Q.map keyR = Q'.map keyR) (t : ByteArray) : verL (bestR (ofP t Q)) = verL (bestR (ofP t Q')) := by
  rw [key_ver, key_ver, key_best, key_best]
  have e := fun Q => key_filter (fun k => decide (k.1.1 = t) && decide (verErr k.1.2.data.toList = 0)) (isP t) (fun _ => rfl) Q
  unfold ofP
  rw [e Q, e Q', h]
theorem latV_same {Q Q' : List Raw} (h : Q.map keyR = Q'.map keyR) (t : ByteArray) : latV Q t = latV Q' t := by
  unfold latV KeptT
  rw [verL_same h]
theorem latL_same {Q Q' : List Raw} (h : Q.map keyR = Q'.map keyR) (E : List Bm) : latL Q E = latL Q' E := by
  unfold latL
  congr 1
  funext m
  rw [latV_same h]
theorem newsL_same {Q Q' : List Raw} (h : Q.map keyR = Q'.map keyR) (E : List Bm) : newsL Q E = newsL Q' E := by
  unfold newsL
  rw [show (fun m : Bm => lessB (vb m) (latV Q m.1).data.toList) = fun m => lessB (vb m) (latV Q' m.1).data.toList from funext fun m => by rw [latV_same h]]
  congr 1
  funext m
  rw [latV_same h]
theorem upF_same {Q Q' : List Raw} {L : List Ent} (h : Q.map keyR = Q'.map keyR) (E : List Bm) : upF Q L E = upF Q' L E := by
  unfold upF
  rw [latL_same h, bX_same (key_mod h)]
theorem upN_same {Q Q' : List Raw} {L : List Ent} (h : Q.map keyR = Q'.map keyR) (E : List Bm) : ∀ n, upN Q L E n = upN Q' L E n
  | 0 => rfl
  | n + 1 => by
    show upF Q L (upN Q L E n) = upF Q' L (upN Q' L E n)
    rw [upN_same h E n, upF_same h]
theorem Fix.same {Q Q' : List Raw} {L : List Ent} {E0 E : List Bm} (h : Q.map keyR = Q'.map keyR) (f : Fix Q L E0 E) : Fix Q' L E0 E := by
  obtain ⟨n, hn⟩ := f.n
  exact ⟨⟨n, by rw [hn, upN_same h]⟩, by rw [← upF_same h]; exact f.f⟩
open Classical in
noncomputable def allE (Q : List Raw) (L : List Ent) (roots : List Bm) : List Bm := if h : (chkG Q L roots).1 = 0 ∧ ∃ E, Fix Q L (bX Q L roots) E then h.2.choose else []
theorem allE_of {Q : List Raw} {L : List Ent} {roots E : List Bm} (h : (chkG Q L roots).1 = 0) (f : Fix Q L (bX Q L roots) E) : E = allE Q L roots := by
  have he : (chkG Q L roots).1 = 0 ∧ ∃ E, Fix Q L (bX Q L roots) E := ⟨h, E, f⟩
  unfold allE
  rw [dif_pos he]
  exact f.one he.2.choose_spec
theorem allE_bad {Q : List Raw} {L : List Ent} {roots : List Bm} (h : ¬ (chkG Q L roots).1 = 0) : allE Q L roots = [] := by
  unfold allE
  rw [dif_neg (fun e => h e.1)]
end Ve
end Go.Proofs.YtanponneancajaaGreatDoor


namespace Go.Proofs.YtanponneancajaaGreatDoor
namespace Ve
theorem dw_nil (p : UInt8 → Bool) : ∀ l : List UInt8, l.dropWhile p = [] ↔ ∀ x, x ∈ l → p x = true
  | [] => by simp
  | b :: r => by
    rw [List.dropWhile_cons]
    cases hb : p b
    · simp [hb]
    · simp [hb, dw_nil p r]
theorem trim_nil (l : List UInt8) : (Lib.trimB l 46 == []) = l.all (· == 46) := by
  have key : Lib.trimB l 46 = [] ↔ ∀ x, x ∈ l → x = 46 := by
    unfold Lib.trimB Lib.trimLeftB Lib.trimRightB
    constructor
    · intro h x hx
      have h1 : ∀ y, y ∈ (l.reverse.dropWhile (· == 46)).reverse → y = 46 := by
        intro y hy
        have := (dw_nil _ _).1 h y hy
        simpa using this
      have h2 : l.reverse.dropWhile (· == 46) = [] := by
        cases e : l.reverse.dropWhile (· == 46) with
        | nil => rfl
        | cons b r =>
          exfalso
          have hb : b = 46 := h1 b (by rw [e]; simp)
          have := List.head_dropWhile_not (· == 46) (l := l.reverse) (by rw [e]; simp)
          simp [e, hb] at this
      have := (dw_nil _ _).1 h2 x (by simpa using hx)
      simpa using this
    · intro h
      have h2 : l.reverse.dropWhile (· == 46) = [] := (dw_nil _ _).2 (fun x hx => by simpa using h x (by simpa using hx))
      rw [h2]; rfl
  rw [Bool.eq_iff_iff]
  simp only [beq_iff_eq, key, List.all_eq_true]
theorem three_iff (l : List UInt8) : Lib.contains l [46, 46, 46] = true ↔ ∃ k, 2 ≤ k ∧ k < l.length ∧ (l.drop (k - 2)).take 3 = [46, 46, 46] := by
  have hocc : ∀ i, Lib.occAt l [46, 46, 46] i = true ↔ (l.drop i).take 3 = [46, 46, 46] := by
    intro i
    unfold Lib.occAt
    rw [List.isPrefixOf_iff_prefix]
    constructor
    · rintro ⟨t, ht⟩
      rw [← ht]; rfl
    · intro h
      exact ⟨(l.drop i).drop 3, by rw [← h, List.take_append_drop]⟩
  unfold Lib.contains
  rw [decide_eq_true_iff]
  rcases Lib.index_spec l [46, 46, 46] with ⟨h1, h2⟩ | ⟨i, h1, h2, h3, h4⟩
  · constructor
    · intro h; omega
    · rintro ⟨k, hk2, hkl, h⟩
      have := h2 (k - 2) (by omega)
      rw [(hocc (k - 2)).2 h] at this
      cases this
  · constructor
    · intro _
      have h5 := (hocc i).1 h3
      have h6 := congrArg List.length h5
      simp at h6
      exact ⟨i + 2, by omega, by omega, by simpa using h5⟩
    · intro _; omega
def seenOk (l : List UInt8) (k : Nat) : Prop := (l.take k).all el = true ∧ ∀ j, 2 ≤ j → j < k → (l.drop (j - 2)).take 3 ≠ [46, 46, 46]
theorem seen_all {l : List UInt8} (h : seenOk l l.length) : elemOk l = !l.all (· == 46) := by
  unfold elemOk
  rw [trim_nil]
  have h1 : allEl l = true := by have := h.1; rw [List.take_length] at this; exact this
  have h2 : Lib.contains l [46, 46, 46] = false := by
    cases e : Lib.contains l [46, 46, 46]
    · rfl
    · obtain ⟨k, a, b, c⟩ := (three_iff l).1 e
      exact absurd c (h.2 k a b)
  rw [h1, h2]; simp
theorem seen_bad {l : List UInt8} {k : Nat} (hk : k < l.length) (h : el l[k] = false) : elemOk l = false := by
  have : allEl l = false := by
    cases e : allEl l
    · rfl
    · have := List.all_eq_true.1 e l[k] (List.getElem_mem hk)
      rw [h] at this; cases this
  unfold elemOk
  rw [this]; simp
theorem seen_three {l : List UInt8} {k : Nat} (h2 : 2 ≤ k) (hk : k < l.length) (h : (l.drop (k - 2)).take 3 = [46, 46, 46]) : elemOk l = false := by
  have : Lib.contains l [46, 46, 46] = true := (three_iff l).2 ⟨k, h2, hk, h⟩
  unfold elemOk
  rw [this]; simp
theorem seen_next {l : List UInt8} {k : Nat} (hs : seenOk l k) (hk : k < l.length) (h : el l[k] = true) (h3 : 2 ≤ k → (l.drop (k - 2)).take 3 ≠ [46, 46, 46]) : seenOk l (k + 1) := by
  refine ⟨?_, fun j h2 hj => ?_⟩
  · rw [List.take_succ_eq_append_getElem hk, all_snoc, hs.1, h]; rfl
  · by_cases e : j = k
    · subst e; exact h3 h2
    · exact hs.2 j h2 (by omega)
theorem dots_next {l : List UInt8} {k : Nat} (hk : k < l.length) : (l.take (k + 1)).all (· == 46) = ((l.take k).all (· == 46) && l[k] == 46) := by
  rw [List.take_succ_eq_append_getElem hk, all_snoc]
def sufV (l : List UInt8) : Int := if likeB l then (if sufOk l then (num (restOf l)).1 else -1) else 0
theorem suf_pos {l : List UInt8} (h : sufOk l = true) : 2 ≤ (num (restOf l)).1 := by
  unfold sufOk at h
  simp only [Bool.and_eq_true, decide_eq_true_eq] at h
  exact h.2
theorem cut_app (c : UInt8) (b : List UInt8) (hb : b.contains c = false) : ∀ a : List UInt8, cutAt c (a ++ c :: b) = cutAt c a ++ [b]
  | [] => by
    show cutAt c (c :: b) = [[]] ++ [b]
    rw [cutAt, if_pos rfl, cut_last c b hb]; rfl
  | x :: a => by
    show cutAt c (x :: (a ++ c :: b)) = cutAt c (x :: a) ++ [b]
    rw [cutAt, cutAt, cut_app c b hb a]
    by_cases hx : x = c
    · rw [if_pos hx, if_pos hx]; rfl
    · rw [if_neg hx, if_neg hx]
      cases e : cutAt c a with
      | nil => exact absurd e (cutAt_ne c a)
      | cons y r => rfl
theorem slash_split {l : List UInt8} {k : Nat} (hk : k < l.length) (h : l[k] = 47) (hn : ∀ j (hj : j < l.length), k < j → l[j] ≠ 47) :
    elems l = elems (l.take k) ++ [l.drop (k + 1)] := by
  have hb : (l.drop (k + 1)).contains 47 = false := by
    cases e : (l.drop (k + 1)).contains 47
    · rfl
    · exfalso
      have hm : (47 : UInt8) ∈ l.drop (k + 1) := by simpa using e
      obtain ⟨i, hi, e2⟩ := List.mem_iff_getElem.1 hm
      rw [List.getElem_drop] at e2
      exact hn (k + 1 + i) (by simp at hi; omega) (by omega) e2
  have e1 : l = l.take k ++ 47 :: l.drop (k + 1) := by
    have h2 := List.take_append_drop k l
    rw [← List.getElem_cons_drop (h := hk), h] at h2
    exact h2.symm
  have h3 := cut_app 47 (l.drop (k + 1)) hb (l.take k)
  rw [← e1] at h3
  exact h3
theorem slash_last {l : List UInt8} {k : Nat} (h : elems l = elems (l.take k) ++ [l.drop (k + 1)]) : 1 < (elems l).length ∧ lastOf l = l.drop (k + 1) ∧ Lib.join ((elems l).take ((elems l).length - 1)) [47] = l.take k := by
  have hp := elems_pos (l.take k)
  have hl : (elems l).length = (elems (l.take k)).length + 1 := by rw [h]; simp
  refine ⟨by omega, ?_, ?_⟩
  · unfold lastOf
    rw [hl, h]
    simp
  · rw [hl, h]
    simp only [Nat.add_sub_cancel, List.take_left']
    exact join_cut 47 _
theorem slash_none {l : List UInt8} (hn : ∀ j (hj : j < l.length), l[j] ≠ 47) : elems l = [l] := by
  refine cut_last 47 l ?_
  cases e : l.contains 47
  · rfl
  · exfalso
    have hm : (47 : UInt8) ∈ l := by simpa using e
    obtain ⟨i, hi, e2⟩ := List.mem_iff_getElem.1 hm
    exact hn i hi e2
end Ve
end Go.Proofs.YtanponneancajaaGreatDoor


namespace Go.Proofs.YtanponneancajaaGreatDoor
open Go.RowKit
namespace Ve
theorem rcut47 (s : ByteArray) (w : World) (hs : s.size < 4294967281) :
    Calls Tryz.prog 42 #[.string s, .int .u8 47] w fun e w' => ∃ v X, e = .returned v ∧ bl X = elems s.data.toList ∧ w'.ownsRow w.heap.size 9 1 v X.length (X.map Value.string) ∧ Below w.heap.size w w' := rcut_any s 47 w hs
theorem unmarked {s : ByteArray} (hp : 0 < s.size) (h : marked s.data.toList = false) : ((s[0].toNat : Int) == 118) = false := by
  unfold marked at h
  rw [List.headD_eq_head?_getD, List.head?_eq_getElem?, List.getElem?_eq_getElem (by simpa using hp)] at h
  simp only [Option.getD_some, beq_eq_false_iff_ne] at h
  have h2 : s[0] ≠ 118 := h
  refine beq_eq_false_iff_ne.2 fun e => h2 ?_
  apply UInt8.toNat_inj.1
  have : (118 : UInt8).toNat = 118 := rfl
  omega
set_option maxHeartbeats 1000000 in
theorem suffixOf_any (s : ByteArray) (w : World) (hs : s.size ≤ maxLen) :
    Calls Tryz.prog 217 #[.string s] w fun e w' => e = .returned (.int .i64 (sufV s.data.toList)) ∧ w' = w := by
  have HV := hid (show sufV s.data.toList = if likeB s.data.toList then (if sufOk s.data.toList then (num (restOf s.data.toList)).1 else -1) else 0 from rfl)
  have HO := hid (show sufOk s.data.toList = (decide ((num (restOf s.data.toList)).2 = 0) && decide (2 ≤ (num (restOf s.data.toList)).1)) from rfl)
  have HL := hid (show likeB s.data.toList = (marked s.data.toList && digs (restOf s.data.toList)) from rfl)
  have hsz : s.size ≤ 9223372036854775807 := hs
  by_cases h2 : s.size < 2
  · have hk : likeB s.data.toList = false := by
      rw [HL.out]
      cases hm : marked s.data.toList
      · rfl
      · have hd : restOf s.data.toList = [] := by rw [rest_drop hm]; exact List.length_eq_zero_iff.1 (by simp; omega)
        rw [hd]; rfl
    rw [hk] at HV
    clear hk
    go_enter Tryz.func217, Tryz.ntmps217
    go_wp2_with fail
    go_ret
    exact ⟨by rw [HV.out]; rfl, rfl⟩
  · have hpos : 0 < s.size := by omega
    cases hm : marked s.data.toList
    · have h0 := unmarked hpos hm
      rw [HL.out, hm] at HV
      clear hm
      go_enter Tryz.func217, Tryz.ntmps217
      go_wp2_with fail
      go_ret
      exact ⟨by rw [HV.out]; rfl, rfl⟩
    · obtain ⟨_, h0⟩ := marked_pos hm
      have HT := hid (show (s.extract 1 s.size).data.toList = restOf s.data.toList by rw [ext_drop, rest_drop hm])
      have hTs : (s.extract 1 s.size).size ≤ maxLen := by rw [ByteArray.size_extract]; unfold maxLen; omega
      have HA := hid (areDigits_any (s.extract 1 s.size) w hTs)
      have HN := hid (numberOf_any (s.extract 1 s.size) w hTs)
      rw [HT.out] at HA HN
      rw [hm] at HL
      have h1k : (1 : Int) ≤ (s.size : Int) := by omega
      generalize restOf s.data.toList = r at *
      clear hm
      cases hd : digs r
      · rw [hd] at HA HL
        rw [HL.out] at HV
        clear hd
        go_enter Tryz.func217, Tryz.ntmps217
        go_wp2_with fail
        refine HA.out.mono ?_
        rintro e w' ⟨rfl, rfl⟩
        go_wp2_with fail
        go_ret
        exact ⟨by rw [HV.out]; rfl, rfl⟩
      · rw [hd] at HA HL
        rw [HL.out] at HV
        clear hd
        by_cases he : (num r).2 = 0
        · rw [decide_eq_true he] at HO
          have hz : ((num r).2 : Int) = 0 := by omega
          have hz2 : ¬ (0 : Int) < ((num r).2 : Int) := by omega
          rw [hz] at HN
          clear hz he
          by_cases hn : (num r).1 < 2
          · rw [decide_eq_false (show ¬ 2 ≤ (num r).1 by omega)] at HO
            rw [HO.out] at HV
            generalize (num r).1 = n at *
            go_enter Tryz.func217, Tryz.ntmps217
            go_wp2_with fail
            refine HA.out.mono ?_
            rintro e w' ⟨rfl, rfl⟩
            go_wp2_with fail
            refine HN.out.mono ?_
            rintro e w' ⟨rfl, rfl⟩
            go_wp2_with fail
            go_ret
            exact ⟨by rw [HV.out]; rfl, rfl⟩
          · rw [decide_eq_true (show 2 ≤ (num r).1 by omega)] at HO
            rw [HO.out] at HV
            generalize (num r).1 = n at *
            go_enter Tryz.func217, Tryz.ntmps217
            go_wp2_with fail
            refine HA.out.mono ?_
            rintro e w' ⟨rfl, rfl⟩
            go_wp2_with fail
            refine HN.out.mono ?_
            rintro e w' ⟨rfl, rfl⟩
            go_wp2_with fail
            go_ret
            exact ⟨by rw [HV.out]; rfl, rfl⟩
        · rw [decide_eq_false he, Bool.false_and] at HO
          rw [HO.out] at HV
          have hz : (0 : Int) < ((num r).2 : Int) := by omega
          generalize ((num r).2 : Int) = c at *
          generalize (num r).1 = n at *
          clear he
          go_enter Tryz.func217, Tryz.ntmps217
          go_wp2_with fail
          refine HA.out.mono ?_
          rintro e w' ⟨rfl, rfl⟩
          go_wp2_with fail
          refine HN.out.mono ?_
          rintro e w' ⟨rfl, rfl⟩
          go_wp2_with fail
          go_ret
          exact ⟨by rw [HV.out]; rfl, rfl⟩
end Ve
end Go.Proofs.YtanponneancajaaGreatDoor


namespace Go.Proofs.YtanponneancajaaGreatDoor
open Go.RowKit
namespace Ve
theorem bad_one {l : List UInt8} {e : List UInt8} (h : e ∈ elems l) (hb : elemOk e = false) : pathErr l = 1 := by
  have : badE l = true := List.any_eq_true.2 ⟨e, h, by rw [hb]; rfl⟩
  unfold pathErr; rw [this]; rfl
theorem bad_none {l : List UInt8} (h : (elems l).all elemOk = true) : badE l = false := by
  unfold badE
  rw [List.any_eq_false]
  intro x hx
  rw [List.all_eq_true.1 h x hx]; decide
theorem path_2 {l : List UInt8} (h : (elems l).all elemOk = true) (h2 : longE l = true) : pathErr l = 2 := by
  unfold pathErr; rw [bad_none h, h2]; rfl
theorem path_4 {l : List UInt8} (h : (elems l).all elemOk = true) (h2 : longE l = false) (h1 : 1 < (elems l).length) (hs : sufV (lastOf l) < 0) : pathErr l = 4 := by
  unfold sufV at hs
  cases hk : likeB (lastOf l)
  · rw [hk] at hs; simp at hs
  · rw [hk] at hs
    cases ho : sufOk (lastOf l)
    · have hu : sufE l = true := by unfold sufE; rw [hk, decide_eq_true h1]; rfl
      unfold pathErr; rw [bad_none h, h2, hu, ho]; rfl
    · rw [ho] at hs
      have := suf_pos ho
      simp at hs; omega
theorem path_0 {l : List UInt8} (h : (elems l).all elemOk = true) (h2 : longE l = false) (h1 : 1 < (elems l).length) (hs : ¬ sufV (lastOf l) < 0) : pathErr l = 0 := by
  unfold sufV at hs
  cases hk : likeB (lastOf l)
  · have hu : sufE l = false := by unfold sufE; rw [hk]; simp
    unfold pathErr; rw [bad_none h, h2, hu]; rfl
  · rw [hk] at hs
    have hu : sufE l = true := by unfold sufE; rw [hk, decide_eq_true h1]; rfl
    cases ho : sufOk (lastOf l)
    · rw [ho] at hs; simp at hs
    · unfold pathErr; rw [bad_none h, h2, hu, ho]; rfl
theorem path_00 {l : List UInt8} (h : (elems l).all elemOk = true) (h2 : longE l = false) (h1 : ¬ 1 < (elems l).length) : pathErr l = 0 := by
  have hu : sufE l = false := by unfold sufE; rw [decide_eq_false h1]; rfl
  unfold pathErr; rw [bad_none h, h2, hu]; rfl
theorem el_is (c : UInt8) : el c = (decide (97 ≤ (c.toNat : Int) ∧ (c.toNat : Int) ≤ 122) || decide (48 ≤ (c.toNat : Int) ∧ (c.toNat : Int) ≤ 57) || (c.toNat : Int) == 46 || (c.toNat : Int) == 45 || (c.toNat : Int) == 95) := rfl
theorem dot_is (c : UInt8) : (c == 46) = ((c.toNat : Int) == 46) := by
  rw [Bool.eq_iff_iff]
  simp only [beq_iff_eq]
  have : (46 : UInt8).toNat = 46 := rfl
  constructor
  · intro h; rw [h]; rfl
  · intro h; exact UInt8.toNat_inj.1 (by omega)
set_option maxRecDepth 100000 in
set_option maxHeartbeats 16000000 in
theorem pathError_any (s : ByteArray) (w : World) (hs : s.size < 4294967281) :
    Calls Tryz.prog 182 #[.string s] w fun e w' => e = .returned (.int .i64 (pathErr s.data.toList : Nat)) ∧ Below w.heap.size w w' := by
  go_enter Tryz.func182, Tryz.ntmps182
  go_wp2_with fail
  refine (rcut47 s w hs).mono ?_
  rintro e w1 ⟨v, X, rfl, hX, hown, hb⟩
  have HX := hid hX
  have HB := hid hb
  have HXN := hid (show X ≠ [] from fun h => by subst h; exact cutAt_ne _ _ hX.symm)
  obtain ⟨g, cap, rfl, hg, hgz, hcells⟩ := owned_cells hown HXN.out
  have HCE := hid hcells
  have hXle := many_le hX
  have HXZ := hid (show ∀ x, x ∈ X → x.size ≤ maxLen from fun x hx => by have := piece_le hX hx; unfold maxLen; omega)
  have HXL := hid (show (elems s.data.toList).length = X.length by rw [← hX, bl_len])
  have HPOS := hid (show 0 < X.length from List.length_pos_iff.2 HXN.out)
  have HLE := hid (show longE s.data.toList = (decide (5 < (X.length : Int)) || (bl X).any long) by
    unfold longE
    rw [← hX, bl_len]
    congr 1
    rw [decide_eq_decide]; omega)
  have HLA := hid (fun hp => last_get hX hp)
  clear hX hown hb hg hgz hcells
  generalize hlg : decide (5 < (X.length : Int)) = lg at *
  go_wp2_with fail
  go_loop [4, 5] (fun lo i => ∃ k : Nat, k ≤ X.length ∧ i = .int .i64 k ∧ lo = .bool (lg || (bl (X.take k)).any long) ∧ Hid ((bl (X.take k)).all elemOk = true)) (fun _ i => X.length - (intOf i).toNat)
  case atStart => exact ⟨0, Nat.zero_le _, rfl, by simp [bl], hid (by simp [bl])⟩
  case round =>
    obtain ⟨k, hk, rfl, rfl, HOK⟩ := hrel
    generalize hbj : (lg || (bl (X.take k)).any long) = bj at *
    have HBJ := hid hbj
    clear hbj
    by_cases hkX : k < X.length
    · have hcell := HCE.out k hkX
      have HPZ := hid (HXZ.out X[k] (List.getElem_mem hkX))
      have HXJ := hid (bl_take_snoc X k hkX)
      have HMEM := hid (show X[k].data.toList ∈ elems s.data.toList by rw [← HX.out]; exact bl_mem (List.getElem_mem hkX))
      generalize X[k] = p at *
      have hpz : p.size ≤ 9223372036854775807 := HPZ.out
      go_wp2_with fail
      go_loop [6, 7, 8, 9, 10] (fun dt i _ _ _ => ∃ y : Nat, y ≤ p.size ∧ i = .int .i64 y ∧ dt = .bool ((p.data.toList.take y).all (· == 46)) ∧ Hid (seenOk p.data.toList y)) (fun _ i _ _ _ => p.size - (intOf i).toNat)
      case atStart => exact ⟨0, Nat.zero_le _, rfl, rfl, hid ⟨rfl, fun j _ h => absurd h (Nat.not_lt_zero j)⟩⟩
      case round =>
        obtain ⟨y, hy, rfl, rfl, HSE⟩ := hrel
        generalize hdt : (p.data.toList.take y).all (· == 46) = dt at *
        have HDT := hid hdt
        clear hdt
        by_cases hyl : y < p.size
        · have hyb := p[y].toNat_lt
          have HLL := hid (show y < p.data.toList.length by simpa using hyl)
          have HPY := hid (show p.data.toList[y]'(by simpa using hyl) = p[y] from rfl)
          have HEL := hid (el_is p[y])
          have HDI := hid (dot_is p[y])
          have HDN := hid (dots_next (l := p.data.toList) (k := y) (by simpa using hyl))
          rw [HPY.out, HDT.out, HDI.out] at HDN
          have HBAD := hid (show el p[y] = false → pathErr s.data.toList = 1 from fun h => bad_one HMEM.out (seen_bad (k := y) (by simpa using hyl) h))
          have HTHREE := hid (show 2 ≤ y → (p.data.toList.drop (y - 2)).take 3 = [46, 46, 46] → pathErr s.data.toList = 1 from fun h2 h => bad_one HMEM.out (seen_three h2 (by simpa using hyl) h))
          have HNEXT := hid (show el p[y] = true → (2 ≤ y → (p.data.toList.drop (y - 2)).take 3 ≠ [46, 46, 46]) → seenOk p.data.toList (y + 1) from fun h h3 => seen_next HSE.out (by simpa using hyl) h h3)
          have HRG := hid (show (p[y].toNat : Int) < 45 ∨ (p[y].toNat : Int) = 45 ∨ (p[y].toNat : Int) = 46 ∨ (p[y].toNat : Int) = 47 ∨ (48 ≤ (p[y].toNat : Int) ∧ (p[y].toNat : Int) ≤ 57) ∨ (57 < (p[y].toNat : Int) ∧ (p[y].toNat : Int) < 95) ∨ (p[y].toNat : Int) = 95 ∨ (p[y].toNat : Int) = 96 ∨ (97 ≤ (p[y].toNat : Int) ∧ (p[y].toNat : Int) ≤ 122) ∨ 122 < (p[y].toNat : Int) by omega)
          have HEXT := hid (show 2 ≤ y → (p.extract (y - 2) (y + 1)).data.toList = (p.data.toList.drop (y - 2)).take 3 from fun h2 => by rw [extract_list, show y + 1 - (y - 2) = 3 by omega])
          clear hyb
          rcases HRG.out with hr | hr | hr | hr | hr | hr | hr | hr | hr | hr
          · have a1 : ¬ 97 ≤ (p[y].toNat : Int) := by omega
            have a2 : (p[y].toNat : Int) ≤ 122 := by omega
            have d1 : ¬ 48 ≤ (p[y].toNat : Int) := by omega
            have d2 : (p[y].toNat : Int) ≤ 57 := by omega
            have e1 : ((p[y].toNat : Int) == 46) = false := beq_eq_false_iff_ne.2 (by omega)
            have e1p : ¬ (p[y].toNat : Int) = 46 := by omega
            have e1n : ((p[y].toNat : Int) != 46) = true := by rw [bne, e1]; rfl
            have e2 : ((p[y].toNat : Int) == 45) = false := beq_eq_false_iff_ne.2 (by omega)
            have e2p : ¬ (p[y].toNat : Int) = 45 := by omega
            have e2n : ((p[y].toNat : Int) != 45) = true := by rw [bne, e2]; rfl
            have e3 : ((p[y].toNat : Int) == 95) = false := beq_eq_false_iff_ne.2 (by omega)
            have e3p : ¬ (p[y].toNat : Int) = 95 := by omega
            have e3n : ((p[y].toNat : Int) != 95) = true := by rw [bne, e3]; rfl
            have HRES := hid (HBAD.out (by rw [HEL.out]; simp; omega))
            have D5 := hid (show ∀ h : ¬ (p[y].toNat : Int) ≤ 57, decide ((p[y].toNat : Int) ≤ 57) = false from fun h => decide_eq_false h)
            have D9 := hid (show ∀ h : ¬ (p[y].toNat : Int) ≤ 122, decide ((p[y].toNat : Int) ≤ 122) = false from fun h => decide_eq_false h)
            clear hr
            go_wp2_with fail
            all_goals first
              | (go_ret; exact ⟨by rw [HRES.out]; rfl, HB.out⟩)
              | exact absurd ‹((((p[y].toNat : Int) != 46) = false ∨ ((p[y].toNat : Int) != 45) = false) ∨ ((p[y].toNat : Int) != 95) = false)› (by rw [e1n, e2n, e3n]; decide)
              | exact absurd ‹((((!decide ((p[y].toNat : Int) ≤ 57)) = false ∨ ((p[y].toNat : Int) != 46) = false) ∨ ((p[y].toNat : Int) != 45) = false) ∨ ((p[y].toNat : Int) != 95) = false)› (by rw [e1n, e2n, e3n, D5.out (by omega)]; decide)
              | exact absurd ‹(((((!decide ((p[y].toNat : Int) ≤ 122)) = false ∨ (!decide ((p[y].toNat : Int) ≤ 57)) = false) ∨ ((p[y].toNat : Int) != 46) = false) ∨ ((p[y].toNat : Int) != 45) = false) ∨ ((p[y].toNat : Int) != 95) = false)› (by rw [e1n, e2n, e3n, D5.out (by omega), D9.out (by omega)]; decide)
          · have a1 : ¬ 97 ≤ (p[y].toNat : Int) := by omega
            have a2 : (p[y].toNat : Int) ≤ 122 := by omega
            have d1 : ¬ 48 ≤ (p[y].toNat : Int) := by omega
            have d2 : (p[y].toNat : Int) ≤ 57 := by omega
            have e1 : ((p[y].toNat : Int) == 46) = false := beq_eq_false_iff_ne.2 (by omega)
            have e1p : ¬ (p[y].toNat : Int) = 46 := by omega
            have e1n : ((p[y].toNat : Int) != 46) = true := by rw [bne, e1]; rfl
            have e2 : ((p[y].toNat : Int) == 45) = true := beq_iff_eq.2 (by omega)
            have e2p : (p[y].toNat : Int) = 45 := by omega
            have e2n : ((p[y].toNat : Int) != 45) = false := by rw [bne, e2]; rfl
            have e3 : ((p[y].toNat : Int) == 95) = false := beq_eq_false_iff_ne.2 (by omega)
            have e3p : ¬ (p[y].toNat : Int) = 95 := by omega
            have e3n : ((p[y].toNat : Int) != 95) = true := by rw [bne, e3]; rfl
            have HE1 := hid (show el p[y] = true by rw [HEL.out]; simp; omega)
            clear hr
            cases dt
            · have HDV := hid (show Value.bool false = Value.bool ((p.data.toList.take (y + 1)).all (· == 46)) by rw [HDN.out, e1]; rfl)
              have HDW := hid (show Value.bool false = Value.bool ((p.data.toList.take (y + 1)).all (· == 46)) by rw [HDN.out]; rfl)
              by_cases h2 : 2 ≤ y
              · have h2i : (2 : Int) ≤ (y : Int) := by omega
                have s1 : (0 : Int) ≤ (y : Int) - 2 := by omega
                have s2 : (y : Int) - 2 ≤ (y : Int) + 1 := by omega
                have s3 : (y : Int) + 1 ≤ (p.size : Int) := by omega
                have t1 : ((y : Int) - 2).toNat = y - 2 := by omega
                have h3 : (p.data.toList.drop (y - 2)).take 3 ≠ [46, 46, 46] := fun h => by
                  have h4 := congrArg (fun l => l[2]?) h
                  have h5 : ((p.data.toList.drop (y - 2)).take 3)[2]? = some p[y] := by
                    rw [List.getElem?_take_of_lt (by omega), List.getElem?_drop, show y - 2 + 2 = y by omega, List.getElem?_eq_getElem HLL.out, HPY.out]
                  have h6 : some p[y] = some 46 := h5.symm.trans h4
                  have h7 : p[y] = 46 := Option.some.inj h6
                  have h8 := HDI.out
                  rw [h7] at h8 e1
                  exact absurd e1 (by decide)
                have hx3 : ((p.extract (y - 2) (y + 1)).toList == [46, 46, 46]) = false := by rw [ByteArray.toList_eq, HEXT.out h2]; exact beq_eq_false_iff_ne.2 h3
                have HNX := hid (HNEXT.out HE1.out (fun _ => h3))
                clear h3
                go_wp2_with fail
                go_round
                case rel => first | exact ⟨y + 1, by omega, by go_num, HDV.out, hid (HNX.out)⟩ | exact ⟨y + 1, by omega, by go_num, HDW.out, hid (HNX.out)⟩
                case measure => simp [intOf]; omega
              · have h2i : ¬ (2 : Int) ≤ (y : Int) := by omega
                have HNX := hid (HNEXT.out HE1.out (fun h => absurd h h2))
                go_wp2_with fail
                go_round
                case rel => first | exact ⟨y + 1, by omega, by go_num, HDV.out, hid (HNX.out)⟩ | exact ⟨y + 1, by omega, by go_num, HDW.out, hid (HNX.out)⟩
                case measure => simp [intOf]; omega
            · have HDV := hid (show Value.bool false = Value.bool ((p.data.toList.take (y + 1)).all (· == 46)) by rw [HDN.out, e1]; rfl)
              have HDW := hid (show Value.bool ((p[y].toNat : Int) == 46) = Value.bool ((p.data.toList.take (y + 1)).all (· == 46)) by rw [HDN.out]; rfl)
              by_cases h2 : 2 ≤ y
              · have h2i : (2 : Int) ≤ (y : Int) := by omega
                have s1 : (0 : Int) ≤ (y : Int) - 2 := by omega
                have s2 : (y : Int) - 2 ≤ (y : Int) + 1 := by omega
                have s3 : (y : Int) + 1 ≤ (p.size : Int) := by omega
                have t1 : ((y : Int) - 2).toNat = y - 2 := by omega
                have h3 : (p.data.toList.drop (y - 2)).take 3 ≠ [46, 46, 46] := fun h => by
                  have h4 := congrArg (fun l => l[2]?) h
                  have h5 : ((p.data.toList.drop (y - 2)).take 3)[2]? = some p[y] := by
                    rw [List.getElem?_take_of_lt (by omega), List.getElem?_drop, show y - 2 + 2 = y by omega, List.getElem?_eq_getElem HLL.out, HPY.out]
                  have h6 : some p[y] = some 46 := h5.symm.trans h4
                  have h7 : p[y] = 46 := Option.some.inj h6
                  have h8 := HDI.out
                  rw [h7] at h8 e1
                  exact absurd e1 (by decide)
                have hx3 : ((p.extract (y - 2) (y + 1)).toList == [46, 46, 46]) = false := by rw [ByteArray.toList_eq, HEXT.out h2]; exact beq_eq_false_iff_ne.2 h3
                have HNX := hid (HNEXT.out HE1.out (fun _ => h3))
                clear h3
                go_wp2_with fail
                go_round
                case rel => first | exact ⟨y + 1, by omega, by go_num, HDV.out, hid (HNX.out)⟩ | exact ⟨y + 1, by omega, by go_num, HDW.out, hid (HNX.out)⟩
                case measure => simp [intOf]; omega
              · have h2i : ¬ (2 : Int) ≤ (y : Int) := by omega
                have HNX := hid (HNEXT.out HE1.out (fun h => absurd h h2))
                go_wp2_with fail
                go_round
                case rel => first | exact ⟨y + 1, by omega, by go_num, HDV.out, hid (HNX.out)⟩ | exact ⟨y + 1, by omega, by go_num, HDW.out, hid (HNX.out)⟩
                case measure => simp [intOf]; omega
          · have a1 : ¬ 97 ≤ (p[y].toNat : Int) := by omega
            have a2 : (p[y].toNat : Int) ≤ 122 := by omega
            have d1 : ¬ 48 ≤ (p[y].toNat : Int) := by omega
            have d2 : (p[y].toNat : Int) ≤ 57 := by omega
            have e1 : ((p[y].toNat : Int) == 46) = true := beq_iff_eq.2 (by omega)
            have e1p : (p[y].toNat : Int) = 46 := by omega
            have e1n : ((p[y].toNat : Int) != 46) = false := by rw [bne, e1]; rfl
            have e2 : ((p[y].toNat : Int) == 45) = false := beq_eq_false_iff_ne.2 (by omega)
            have e2p : ¬ (p[y].toNat : Int) = 45 := by omega
            have e2n : ((p[y].toNat : Int) != 45) = true := by rw [bne, e2]; rfl
            have e3 : ((p[y].toNat : Int) == 95) = false := beq_eq_false_iff_ne.2 (by omega)
            have e3p : ¬ (p[y].toNat : Int) = 95 := by omega
            have e3n : ((p[y].toNat : Int) != 95) = true := by rw [bne, e3]; rfl
            have HE1 := hid (show el p[y] = true by rw [HEL.out]; simp; omega)
            clear hr
            cases dt
            · have HDV := hid (show Value.bool false = Value.bool ((p.data.toList.take (y + 1)).all (· == 46)) by rw [HDN.out, e1]; rfl)
              have HDW := hid (show Value.bool false = Value.bool ((p.data.toList.take (y + 1)).all (· == 46)) by rw [HDN.out]; rfl)
              by_cases h2 : 2 ≤ y
              · have h2i : (2 : Int) ≤ (y : Int) := by omega
                have s1 : (0 : Int) ≤ (y : Int) - 2 := by omega
                have s2 : (y : Int) - 2 ≤ (y : Int) + 1 := by omega
                have s3 : (y : Int) + 1 ≤ (p.size : Int) := by omega
                have t1 : ((y : Int) - 2).toNat = y - 2 := by omega
                by_cases h3 : (p.data.toList.drop (y - 2)).take 3 = [46, 46, 46]
                · have hx3 : ((p.extract (y - 2) (y + 1)).toList == [46, 46, 46]) = true := by rw [ByteArray.toList_eq, HEXT.out h2]; exact beq_iff_eq.2 h3
                  have HRES := hid (HTHREE.out h2 h3)
                  clear h3
                  go_wp2_with fail
                  go_ret
                  exact ⟨by rw [HRES.out]; rfl, HB.out⟩
                · have hx3 : ((p.extract (y - 2) (y + 1)).toList == [46, 46, 46]) = false := by rw [ByteArray.toList_eq, HEXT.out h2]; exact beq_eq_false_iff_ne.2 h3
                  have HNX := hid (HNEXT.out HE1.out (fun _ => h3))
                  clear h3
                  go_wp2_with fail
                  go_round
                  case rel => first | exact ⟨y + 1, by omega, by go_num, HDV.out, hid (HNX.out)⟩ | exact ⟨y + 1, by omega, by go_num, HDW.out, hid (HNX.out)⟩
                  case measure => simp [intOf]; omega
              · have h2i : ¬ (2 : Int) ≤ (y : Int) := by omega
                have HNX := hid (HNEXT.out HE1.out (fun h => absurd h h2))
                go_wp2_with fail
                go_round
                case rel => first | exact ⟨y + 1, by omega, by go_num, HDV.out, hid (HNX.out)⟩ | exact ⟨y + 1, by omega, by go_num, HDW.out, hid (HNX.out)⟩
                case measure => simp [intOf]; omega
            · have HDV := hid (show Value.bool true = Value.bool ((p.data.toList.take (y + 1)).all (· == 46)) by rw [HDN.out, e1]; rfl)
              have HDW := hid (show Value.bool ((p[y].toNat : Int) == 46) = Value.bool ((p.data.toList.take (y + 1)).all (· == 46)) by rw [HDN.out]; rfl)
              by_cases h2 : 2 ≤ y
              · have h2i : (2 : Int) ≤ (y : Int) := by omega
                have s1 : (0 : Int) ≤ (y : Int) - 2 := by omega
                have s2 : (y : Int) - 2 ≤ (y : Int) + 1 := by omega
                have s3 : (y : Int) + 1 ≤ (p.size : Int) := by omega
                have t1 : ((y : Int) - 2).toNat = y - 2 := by omega
                by_cases h3 : (p.data.toList.drop (y - 2)).take 3 = [46, 46, 46]
                · have hx3 : ((p.extract (y - 2) (y + 1)).toList == [46, 46, 46]) = true := by rw [ByteArray.toList_eq, HEXT.out h2]; exact beq_iff_eq.2 h3
                  have HRES := hid (HTHREE.out h2 h3)
                  clear h3
                  go_wp2_with fail
                  go_ret
                  exact ⟨by rw [HRES.out]; rfl, HB.out⟩
                · have hx3 : ((p.extract (y - 2) (y + 1)).toList == [46, 46, 46]) = false := by rw [ByteArray.toList_eq, HEXT.out h2]; exact beq_eq_false_iff_ne.2 h3
                  have HNX := hid (HNEXT.out HE1.out (fun _ => h3))
                  clear h3
                  go_wp2_with fail
                  go_round
                  case rel => first | exact ⟨y + 1, by omega, by go_num, HDV.out, hid (HNX.out)⟩ | exact ⟨y + 1, by omega, by go_num, HDW.out, hid (HNX.out)⟩
                  case measure => simp [intOf]; omega
              · have h2i : ¬ (2 : Int) ≤ (y : Int) := by omega
                have HNX := hid (HNEXT.out HE1.out (fun h => absurd h h2))
                go_wp2_with fail
                go_round
                case rel => first | exact ⟨y + 1, by omega, by go_num, HDV.out, hid (HNX.out)⟩ | exact ⟨y + 1, by omega, by go_num, HDW.out, hid (HNX.out)⟩
                case measure => simp [intOf]; omega
          · have a1 : ¬ 97 ≤ (p[y].toNat : Int) := by omega
            have a2 : (p[y].toNat : Int) ≤ 122 := by omega
            have d1 : ¬ 48 ≤ (p[y].toNat : Int) := by omega
            have d2 : (p[y].toNat : Int) ≤ 57 := by omega
            have e1 : ((p[y].toNat : Int) == 46) = false := beq_eq_false_iff_ne.2 (by omega)
            have e1p : ¬ (p[y].toNat : Int) = 46 := by omega
            have e1n : ((p[y].toNat : Int) != 46) = true := by rw [bne, e1]; rfl
            have e2 : ((p[y].toNat : Int) == 45) = false := beq_eq_false_iff_ne.2 (by omega)
            have e2p : ¬ (p[y].toNat : Int) = 45 := by omega
            have e2n : ((p[y].toNat : Int) != 45) = true := by rw [bne, e2]; rfl
            have e3 : ((p[y].toNat : Int) == 95) = false := beq_eq_false_iff_ne.2 (by omega)
            have e3p : ¬ (p[y].toNat : Int) = 95 := by omega
            have e3n : ((p[y].toNat : Int) != 95) = true := by rw [bne, e3]; rfl
            have HRES := hid (HBAD.out (by rw [HEL.out]; simp; omega))
            have D5 := hid (show ∀ h : ¬ (p[y].toNat : Int) ≤ 57, decide ((p[y].toNat : Int) ≤ 57) = false from fun h => decide_eq_false h)
            have D9 := hid (show ∀ h : ¬ (p[y].toNat : Int) ≤ 122, decide ((p[y].toNat : Int) ≤ 122) = false from fun h => decide_eq_false h)
            clear hr
            go_wp2_with fail
            all_goals first
              | (go_ret; exact ⟨by rw [HRES.out]; rfl, HB.out⟩)
              | exact absurd ‹((((p[y].toNat : Int) != 46) = false ∨ ((p[y].toNat : Int) != 45) = false) ∨ ((p[y].toNat : Int) != 95) = false)› (by rw [e1n, e2n, e3n]; decide)
              | exact absurd ‹((((!decide ((p[y].toNat : Int) ≤ 57)) = false ∨ ((p[y].toNat : Int) != 46) = false) ∨ ((p[y].toNat : Int) != 45) = false) ∨ ((p[y].toNat : Int) != 95) = false)› (by rw [e1n, e2n, e3n, D5.out (by omega)]; decide)
              | exact absurd ‹(((((!decide ((p[y].toNat : Int) ≤ 122)) = false ∨ (!decide ((p[y].toNat : Int) ≤ 57)) = false) ∨ ((p[y].toNat : Int) != 46) = false) ∨ ((p[y].toNat : Int) != 45) = false) ∨ ((p[y].toNat : Int) != 95) = false)› (by rw [e1n, e2n, e3n, D5.out (by omega), D9.out (by omega)]; decide)
          · have a1 : ¬ 97 ≤ (p[y].toNat : Int) := by omega
            have a2 : (p[y].toNat : Int) ≤ 122 := by omega
            have d1 : 48 ≤ (p[y].toNat : Int) := by omega
            have d2 : (p[y].toNat : Int) ≤ 57 := by omega
            have e1 : ((p[y].toNat : Int) == 46) = false := beq_eq_false_iff_ne.2 (by omega)
            have e1p : ¬ (p[y].toNat : Int) = 46 := by omega
            have e1n : ((p[y].toNat : Int) != 46) = true := by rw [bne, e1]; rfl
            have e2 : ((p[y].toNat : Int) == 45) = false := beq_eq_false_iff_ne.2 (by omega)
            have e2p : ¬ (p[y].toNat : Int) = 45 := by omega
            have e2n : ((p[y].toNat : Int) != 45) = true := by rw [bne, e2]; rfl
            have e3 : ((p[y].toNat : Int) == 95) = false := beq_eq_false_iff_ne.2 (by omega)
            have e3p : ¬ (p[y].toNat : Int) = 95 := by omega
            have e3n : ((p[y].toNat : Int) != 95) = true := by rw [bne, e3]; rfl
            have HE1 := hid (show el p[y] = true by rw [HEL.out]; simp; omega)
            clear hr
            cases dt
            · have HDV := hid (show Value.bool false = Value.bool ((p.data.toList.take (y + 1)).all (· == 46)) by rw [HDN.out, e1]; rfl)
              have HDW := hid (show Value.bool false = Value.bool ((p.data.toList.take (y + 1)).all (· == 46)) by rw [HDN.out]; rfl)
              by_cases h2 : 2 ≤ y
              · have h2i : (2 : Int) ≤ (y : Int) := by omega
                have s1 : (0 : Int) ≤ (y : Int) - 2 := by omega
                have s2 : (y : Int) - 2 ≤ (y : Int) + 1 := by omega
                have s3 : (y : Int) + 1 ≤ (p.size : Int) := by omega
                have t1 : ((y : Int) - 2).toNat = y - 2 := by omega
                have h3 : (p.data.toList.drop (y - 2)).take 3 ≠ [46, 46, 46] := fun h => by
                  have h4 := congrArg (fun l => l[2]?) h
                  have h5 : ((p.data.toList.drop (y - 2)).take 3)[2]? = some p[y] := by
                    rw [List.getElem?_take_of_lt (by omega), List.getElem?_drop, show y - 2 + 2 = y by omega, List.getElem?_eq_getElem HLL.out, HPY.out]
                  have h6 : some p[y] = some 46 := h5.symm.trans h4
                  have h7 : p[y] = 46 := Option.some.inj h6
                  have h8 := HDI.out
                  rw [h7] at h8 e1
                  exact absurd e1 (by decide)
                have hx3 : ((p.extract (y - 2) (y + 1)).toList == [46, 46, 46]) = false := by rw [ByteArray.toList_eq, HEXT.out h2]; exact beq_eq_false_iff_ne.2 h3
                have HNX := hid (HNEXT.out HE1.out (fun _ => h3))
                clear h3
                go_wp2_with fail
                go_round
                case rel => first | exact ⟨y + 1, by omega, by go_num, HDV.out, hid (HNX.out)⟩ | exact ⟨y + 1, by omega, by go_num, HDW.out, hid (HNX.out)⟩
                case measure => simp [intOf]; omega
              · have h2i : ¬ (2 : Int) ≤ (y : Int) := by omega
                have HNX := hid (HNEXT.out HE1.out (fun h => absurd h h2))
                go_wp2_with fail
                go_round
                case rel => first | exact ⟨y + 1, by omega, by go_num, HDV.out, hid (HNX.out)⟩ | exact ⟨y + 1, by omega, by go_num, HDW.out, hid (HNX.out)⟩
                case measure => simp [intOf]; omega
            · have HDV := hid (show Value.bool false = Value.bool ((p.data.toList.take (y + 1)).all (· == 46)) by rw [HDN.out, e1]; rfl)
              have HDW := hid (show Value.bool ((p[y].toNat : Int) == 46) = Value.bool ((p.data.toList.take (y + 1)).all (· == 46)) by rw [HDN.out]; rfl)
              by_cases h2 : 2 ≤ y
              · have h2i : (2 : Int) ≤ (y : Int) := by omega
                have s1 : (0 : Int) ≤ (y : Int) - 2 := by omega
                have s2 : (y : Int) - 2 ≤ (y : Int) + 1 := by omega
                have s3 : (y : Int) + 1 ≤ (p.size : Int) := by omega
                have t1 : ((y : Int) - 2).toNat = y - 2 := by omega
                have h3 : (p.data.toList.drop (y - 2)).take 3 ≠ [46, 46, 46] := fun h => by
                  have h4 := congrArg (fun l => l[2]?) h
                  have h5 : ((p.data.toList.drop (y - 2)).take 3)[2]? = some p[y] := by
                    rw [List.getElem?_take_of_lt (by omega), List.getElem?_drop, show y - 2 + 2 = y by omega, List.getElem?_eq_getElem HLL.out, HPY.out]
                  have h6 : some p[y] = some 46 := h5.symm.trans h4
                  have h7 : p[y] = 46 := Option.some.inj h6
                  have h8 := HDI.out
                  rw [h7] at h8 e1
                  exact absurd e1 (by decide)
                have hx3 : ((p.extract (y - 2) (y + 1)).toList == [46, 46, 46]) = false := by rw [ByteArray.toList_eq, HEXT.out h2]; exact beq_eq_false_iff_ne.2 h3
                have HNX := hid (HNEXT.out HE1.out (fun _ => h3))
                clear h3
                go_wp2_with fail
                go_round
                case rel => first | exact ⟨y + 1, by omega, by go_num, HDV.out, hid (HNX.out)⟩ | exact ⟨y + 1, by omega, by go_num, HDW.out, hid (HNX.out)⟩
                case measure => simp [intOf]; omega
              · have h2i : ¬ (2 : Int) ≤ (y : Int) := by omega
                have HNX := hid (HNEXT.out HE1.out (fun h => absurd h h2))
                go_wp2_with fail
                go_round
                case rel => first | exact ⟨y + 1, by omega, by go_num, HDV.out, hid (HNX.out)⟩ | exact ⟨y + 1, by omega, by go_num, HDW.out, hid (HNX.out)⟩
                case measure => simp [intOf]; omega
          · have a1 : ¬ 97 ≤ (p[y].toNat : Int) := by omega
            have a2 : (p[y].toNat : Int) ≤ 122 := by omega
            have d1 : 48 ≤ (p[y].toNat : Int) := by omega
            have d2 : ¬ (p[y].toNat : Int) ≤ 57 := by omega
            have e1 : ((p[y].toNat : Int) == 46) = false := beq_eq_false_iff_ne.2 (by omega)
            have e1p : ¬ (p[y].toNat : Int) = 46 := by omega
            have e1n : ((p[y].toNat : Int) != 46) = true := by rw [bne, e1]; rfl
            have e2 : ((p[y].toNat : Int) == 45) = false := beq_eq_false_iff_ne.2 (by omega)
            have e2p : ¬ (p[y].toNat : Int) = 45 := by omega
            have e2n : ((p[y].toNat : Int) != 45) = true := by rw [bne, e2]; rfl
            have e3 : ((p[y].toNat : Int) == 95) = false := beq_eq_false_iff_ne.2 (by omega)
            have e3p : ¬ (p[y].toNat : Int) = 95 := by omega
            have e3n : ((p[y].toNat : Int) != 95) = true := by rw [bne, e3]; rfl
            have HRES := hid (HBAD.out (by rw [HEL.out]; simp; omega))
            have D5 := hid (show ∀ h : ¬ (p[y].toNat : Int) ≤ 57, decide ((p[y].toNat : Int) ≤ 57) = false from fun h => decide_eq_false h)
            have D9 := hid (show ∀ h : ¬ (p[y].toNat : Int) ≤ 122, decide ((p[y].toNat : Int) ≤ 122) = false from fun h => decide_eq_false h)
            clear hr
            go_wp2_with fail
            all_goals first
              | (go_ret; exact ⟨by rw [HRES.out]; rfl, HB.out⟩)
              | exact absurd ‹((((p[y].toNat : Int) != 46) = false ∨ ((p[y].toNat : Int) != 45) = false) ∨ ((p[y].toNat : Int) != 95) = false)› (by rw [e1n, e2n, e3n]; decide)
              | exact absurd ‹((((!decide ((p[y].toNat : Int) ≤ 57)) = false ∨ ((p[y].toNat : Int) != 46) = false) ∨ ((p[y].toNat : Int) != 45) = false) ∨ ((p[y].toNat : Int) != 95) = false)› (by rw [e1n, e2n, e3n, D5.out (by omega)]; decide)
              | exact absurd ‹(((((!decide ((p[y].toNat : Int) ≤ 122)) = false ∨ (!decide ((p[y].toNat : Int) ≤ 57)) = false) ∨ ((p[y].toNat : Int) != 46) = false) ∨ ((p[y].toNat : Int) != 45) = false) ∨ ((p[y].toNat : Int) != 95) = false)› (by rw [e1n, e2n, e3n, D5.out (by omega), D9.out (by omega)]; decide)
          · have a1 : ¬ 97 ≤ (p[y].toNat : Int) := by omega
            have a2 : (p[y].toNat : Int) ≤ 122 := by omega
            have d1 : 48 ≤ (p[y].toNat : Int) := by omega
            have d2 : ¬ (p[y].toNat : Int) ≤ 57 := by omega
            have e1 : ((p[y].toNat : Int) == 46) = false := beq_eq_false_iff_ne.2 (by omega)
            have e1p : ¬ (p[y].toNat : Int) = 46 := by omega
            have e1n : ((p[y].toNat : Int) != 46) = true := by rw [bne, e1]; rfl
            have e2 : ((p[y].toNat : Int) == 45) = false := beq_eq_false_iff_ne.2 (by omega)
            have e2p : ¬ (p[y].toNat : Int) = 45 := by omega
            have e2n : ((p[y].toNat : Int) != 45) = true := by rw [bne, e2]; rfl
            have e3 : ((p[y].toNat : Int) == 95) = true := beq_iff_eq.2 (by omega)
            have e3p : (p[y].toNat : Int) = 95 := by omega
            have e3n : ((p[y].toNat : Int) != 95) = false := by rw [bne, e3]; rfl
            have HE1 := hid (show el p[y] = true by rw [HEL.out]; simp; omega)
            clear hr
            cases dt
            · have HDV := hid (show Value.bool false = Value.bool ((p.data.toList.take (y + 1)).all (· == 46)) by rw [HDN.out, e1]; rfl)
              have HDW := hid (show Value.bool false = Value.bool ((p.data.toList.take (y + 1)).all (· == 46)) by rw [HDN.out]; rfl)
              by_cases h2 : 2 ≤ y
              · have h2i : (2 : Int) ≤ (y : Int) := by omega
                have s1 : (0 : Int) ≤ (y : Int) - 2 := by omega
                have s2 : (y : Int) - 2 ≤ (y : Int) + 1 := by omega
                have s3 : (y : Int) + 1 ≤ (p.size : Int) := by omega
                have t1 : ((y : Int) - 2).toNat = y - 2 := by omega
                have h3 : (p.data.toList.drop (y - 2)).take 3 ≠ [46, 46, 46] := fun h => by
                  have h4 := congrArg (fun l => l[2]?) h
                  have h5 : ((p.data.toList.drop (y - 2)).take 3)[2]? = some p[y] := by
                    rw [List.getElem?_take_of_lt (by omega), List.getElem?_drop, show y - 2 + 2 = y by omega, List.getElem?_eq_getElem HLL.out, HPY.out]
                  have h6 : some p[y] = some 46 := h5.symm.trans h4
                  have h7 : p[y] = 46 := Option.some.inj h6
                  have h8 := HDI.out
                  rw [h7] at h8 e1
                  exact absurd e1 (by decide)
                have hx3 : ((p.extract (y - 2) (y + 1)).toList == [46, 46, 46]) = false := by rw [ByteArray.toList_eq, HEXT.out h2]; exact beq_eq_false_iff_ne.2 h3
                have HNX := hid (HNEXT.out HE1.out (fun _ => h3))
                clear h3
                go_wp2_with fail
                all_goals (try exact absurd (‹((((!decide ((p[y].toNat : Int) ≤ 57)) = true ∧ ((p[y].toNat : Int) != 46) = true) ∧ ((p[y].toNat : Int) != 45) = true) ∧ ((p[y].toNat : Int) != 95) = true)›).2 (by rw [e3n]; decide))
                go_round
                case rel => first | exact ⟨y + 1, by omega, by go_num, HDV.out, hid (HNX.out)⟩ | exact ⟨y + 1, by omega, by go_num, HDW.out, hid (HNX.out)⟩
                case measure => simp [intOf]; omega
              · have h2i : ¬ (2 : Int) ≤ (y : Int) := by omega
                have HNX := hid (HNEXT.out HE1.out (fun h => absurd h h2))
                go_wp2_with fail
                all_goals (try exact absurd (‹((((!decide ((p[y].toNat : Int) ≤ 57)) = true ∧ ((p[y].toNat : Int) != 46) = true) ∧ ((p[y].toNat : Int) != 45) = true) ∧ ((p[y].toNat : Int) != 95) = true)›).2 (by rw [e3n]; decide))
                go_round
                case rel => first | exact ⟨y + 1, by omega, by go_num, HDV.out, hid (HNX.out)⟩ | exact ⟨y + 1, by omega, by go_num, HDW.out, hid (HNX.out)⟩
                case measure => simp [intOf]; omega
            · have HDV := hid (show Value.bool false = Value.bool ((p.data.toList.take (y + 1)).all (· == 46)) by rw [HDN.out, e1]; rfl)
              have HDW := hid (show Value.bool ((p[y].toNat : Int) == 46) = Value.bool ((p.data.toList.take (y + 1)).all (· == 46)) by rw [HDN.out]; rfl)
              by_cases h2 : 2 ≤ y
              · have h2i : (2 : Int) ≤ (y : Int) := by omega
                have s1 : (0 : Int) ≤ (y : Int) - 2 := by omega
                have s2 : (y : Int) - 2 ≤ (y : Int) + 1 := by omega
                have s3 : (y : Int) + 1 ≤ (p.size : Int) := by omega
                have t1 : ((y : Int) - 2).toNat = y - 2 := by omega
                have h3 : (p.data.toList.drop (y - 2)).take 3 ≠ [46, 46, 46] := fun h => by
                  have h4 := congrArg (fun l => l[2]?) h
                  have h5 : ((p.data.toList.drop (y - 2)).take 3)[2]? = some p[y] := by
                    rw [List.getElem?_take_of_lt (by omega), List.getElem?_drop, show y - 2 + 2 = y by omega, List.getElem?_eq_getElem HLL.out, HPY.out]
                  have h6 : some p[y] = some 46 := h5.symm.trans h4
                  have h7 : p[y] = 46 := Option.some.inj h6
                  have h8 := HDI.out
                  rw [h7] at h8 e1
                  exact absurd e1 (by decide)
                have hx3 : ((p.extract (y - 2) (y + 1)).toList == [46, 46, 46]) = false := by rw [ByteArray.toList_eq, HEXT.out h2]; exact beq_eq_false_iff_ne.2 h3
                have HNX := hid (HNEXT.out HE1.out (fun _ => h3))
                clear h3
                go_wp2_with fail
                all_goals (try exact absurd (‹((((!decide ((p[y].toNat : Int) ≤ 57)) = true ∧ ((p[y].toNat : Int) != 46) = true) ∧ ((p[y].toNat : Int) != 45) = true) ∧ ((p[y].toNat : Int) != 95) = true)›).2 (by rw [e3n]; decide))
                go_round
                case rel => first | exact ⟨y + 1, by omega, by go_num, HDV.out, hid (HNX.out)⟩ | exact ⟨y + 1, by omega, by go_num, HDW.out, hid (HNX.out)⟩
                case measure => simp [intOf]; omega
              · have h2i : ¬ (2 : Int) ≤ (y : Int) := by omega
                have HNX := hid (HNEXT.out HE1.out (fun h => absurd h h2))
                go_wp2_with fail
                all_goals (try exact absurd (‹((((!decide ((p[y].toNat : Int) ≤ 57)) = true ∧ ((p[y].toNat : Int) != 46) = true) ∧ ((p[y].toNat : Int) != 45) = true) ∧ ((p[y].toNat : Int) != 95) = true)›).2 (by rw [e3n]; decide))
                go_round
                case rel => first | exact ⟨y + 1, by omega, by go_num, HDV.out, hid (HNX.out)⟩ | exact ⟨y + 1, by omega, by go_num, HDW.out, hid (HNX.out)⟩
                case measure => simp [intOf]; omega
          · have a1 : ¬ 97 ≤ (p[y].toNat : Int) := by omega
            have a2 : (p[y].toNat : Int) ≤ 122 := by omega
            have d1 : 48 ≤ (p[y].toNat : Int) := by omega
            have d2 : ¬ (p[y].toNat : Int) ≤ 57 := by omega
            have e1 : ((p[y].toNat : Int) == 46) = false := beq_eq_false_iff_ne.2 (by omega)
            have e1p : ¬ (p[y].toNat : Int) = 46 := by omega
            have e1n : ((p[y].toNat : Int) != 46) = true := by rw [bne, e1]; rfl
            have e2 : ((p[y].toNat : Int) == 45) = false := beq_eq_false_iff_ne.2 (by omega)
            have e2p : ¬ (p[y].toNat : Int) = 45 := by omega
            have e2n : ((p[y].toNat : Int) != 45) = true := by rw [bne, e2]; rfl
            have e3 : ((p[y].toNat : Int) == 95) = false := beq_eq_false_iff_ne.2 (by omega)
            have e3p : ¬ (p[y].toNat : Int) = 95 := by omega
            have e3n : ((p[y].toNat : Int) != 95) = true := by rw [bne, e3]; rfl
            have HRES := hid (HBAD.out (by rw [HEL.out]; simp; omega))
            have D5 := hid (show ∀ h : ¬ (p[y].toNat : Int) ≤ 57, decide ((p[y].toNat : Int) ≤ 57) = false from fun h => decide_eq_false h)
            have D9 := hid (show ∀ h : ¬ (p[y].toNat : Int) ≤ 122, decide ((p[y].toNat : Int) ≤ 122) = false from fun h => decide_eq_false h)
            clear hr
            go_wp2_with fail
            all_goals first
              | (go_ret; exact ⟨by rw [HRES.out]; rfl, HB.out⟩)
              | exact absurd ‹((((p[y].toNat : Int) != 46) = false ∨ ((p[y].toNat : Int) != 45) = false) ∨ ((p[y].toNat : Int) != 95) = false)› (by rw [e1n, e2n, e3n]; decide)
              | exact absurd ‹((((!decide ((p[y].toNat : Int) ≤ 57)) = false ∨ ((p[y].toNat : Int) != 46) = false) ∨ ((p[y].toNat : Int) != 45) = false) ∨ ((p[y].toNat : Int) != 95) = false)› (by rw [e1n, e2n, e3n, D5.out (by omega)]; decide)
              | exact absurd ‹(((((!decide ((p[y].toNat : Int) ≤ 122)) = false ∨ (!decide ((p[y].toNat : Int) ≤ 57)) = false) ∨ ((p[y].toNat : Int) != 46) = false) ∨ ((p[y].toNat : Int) != 45) = false) ∨ ((p[y].toNat : Int) != 95) = false)› (by rw [e1n, e2n, e3n, D5.out (by omega), D9.out (by omega)]; decide)
          · have a1 : 97 ≤ (p[y].toNat : Int) := by omega
            have a2 : (p[y].toNat : Int) ≤ 122 := by omega
            have d1 : 48 ≤ (p[y].toNat : Int) := by omega
            have d2 : ¬ (p[y].toNat : Int) ≤ 57 := by omega
            have e1 : ((p[y].toNat : Int) == 46) = false := beq_eq_false_iff_ne.2 (by omega)
            have e1p : ¬ (p[y].toNat : Int) = 46 := by omega
            have e1n : ((p[y].toNat : Int) != 46) = true := by rw [bne, e1]; rfl
            have e2 : ((p[y].toNat : Int) == 45) = false := beq_eq_false_iff_ne.2 (by omega)
            have e2p : ¬ (p[y].toNat : Int) = 45 := by omega
            have e2n : ((p[y].toNat : Int) != 45) = true := by rw [bne, e2]; rfl
            have e3 : ((p[y].toNat : Int) == 95) = false := beq_eq_false_iff_ne.2 (by omega)
            have e3p : ¬ (p[y].toNat : Int) = 95 := by omega
            have e3n : ((p[y].toNat : Int) != 95) = true := by rw [bne, e3]; rfl
            have HE1 := hid (show el p[y] = true by rw [HEL.out]; simp; omega)
            clear hr
            cases dt
            · have HDV := hid (show Value.bool false = Value.bool ((p.data.toList.take (y + 1)).all (· == 46)) by rw [HDN.out, e1]; rfl)
              have HDW := hid (show Value.bool false = Value.bool ((p.data.toList.take (y + 1)).all (· == 46)) by rw [HDN.out]; rfl)
              by_cases h2 : 2 ≤ y
              · have h2i : (2 : Int) ≤ (y : Int) := by omega
                have s1 : (0 : Int) ≤ (y : Int) - 2 := by omega
                have s2 : (y : Int) - 2 ≤ (y : Int) + 1 := by omega
                have s3 : (y : Int) + 1 ≤ (p.size : Int) := by omega
                have t1 : ((y : Int) - 2).toNat = y - 2 := by omega
                have h3 : (p.data.toList.drop (y - 2)).take 3 ≠ [46, 46, 46] := fun h => by
                  have h4 := congrArg (fun l => l[2]?) h
                  have h5 : ((p.data.toList.drop (y - 2)).take 3)[2]? = some p[y] := by
                    rw [List.getElem?_take_of_lt (by omega), List.getElem?_drop, show y - 2 + 2 = y by omega, List.getElem?_eq_getElem HLL.out, HPY.out]
                  have h6 : some p[y] = some 46 := h5.symm.trans h4
                  have h7 : p[y] = 46 := Option.some.inj h6
                  have h8 := HDI.out
                  rw [h7] at h8 e1
                  exact absurd e1 (by decide)
                have hx3 : ((p.extract (y - 2) (y + 1)).toList == [46, 46, 46]) = false := by rw [ByteArray.toList_eq, HEXT.out h2]; exact beq_eq_false_iff_ne.2 h3
                have HNX := hid (HNEXT.out HE1.out (fun _ => h3))
                clear h3
                go_wp2_with fail
                go_round
                case rel => first | exact ⟨y + 1, by omega, by go_num, HDV.out, hid (HNX.out)⟩ | exact ⟨y + 1, by omega, by go_num, HDW.out, hid (HNX.out)⟩
                case measure => simp [intOf]; omega
              · have h2i : ¬ (2 : Int) ≤ (y : Int) := by omega
                have HNX := hid (HNEXT.out HE1.out (fun h => absurd h h2))
                go_wp2_with fail
                go_round
                case rel => first | exact ⟨y + 1, by omega, by go_num, HDV.out, hid (HNX.out)⟩ | exact ⟨y + 1, by omega, by go_num, HDW.out, hid (HNX.out)⟩
                case measure => simp [intOf]; omega
            · have HDV := hid (show Value.bool false = Value.bool ((p.data.toList.take (y + 1)).all (· == 46)) by rw [HDN.out, e1]; rfl)
              have HDW := hid (show Value.bool ((p[y].toNat : Int) == 46) = Value.bool ((p.data.toList.take (y + 1)).all (· == 46)) by rw [HDN.out]; rfl)
              by_cases h2 : 2 ≤ y
              · have h2i : (2 : Int) ≤ (y : Int) := by omega
                have s1 : (0 : Int) ≤ (y : Int) - 2 := by omega
                have s2 : (y : Int) - 2 ≤ (y : Int) + 1 := by omega
                have s3 : (y : Int) + 1 ≤ (p.size : Int) := by omega
                have t1 : ((y : Int) - 2).toNat = y - 2 := by omega
                have h3 : (p.data.toList.drop (y - 2)).take 3 ≠ [46, 46, 46] := fun h => by
                  have h4 := congrArg (fun l => l[2]?) h
                  have h5 : ((p.data.toList.drop (y - 2)).take 3)[2]? = some p[y] := by
                    rw [List.getElem?_take_of_lt (by omega), List.getElem?_drop, show y - 2 + 2 = y by omega, List.getElem?_eq_getElem HLL.out, HPY.out]
                  have h6 : some p[y] = some 46 := h5.symm.trans h4
                  have h7 : p[y] = 46 := Option.some.inj h6
                  have h8 := HDI.out
                  rw [h7] at h8 e1
                  exact absurd e1 (by decide)
                have hx3 : ((p.extract (y - 2) (y + 1)).toList == [46, 46, 46]) = false := by rw [ByteArray.toList_eq, HEXT.out h2]; exact beq_eq_false_iff_ne.2 h3
                have HNX := hid (HNEXT.out HE1.out (fun _ => h3))
                clear h3
                go_wp2_with fail
                go_round
                case rel => first | exact ⟨y + 1, by omega, by go_num, HDV.out, hid (HNX.out)⟩ | exact ⟨y + 1, by omega, by go_num, HDW.out, hid (HNX.out)⟩
                case measure => simp [intOf]; omega
              · have h2i : ¬ (2 : Int) ≤ (y : Int) := by omega
                have HNX := hid (HNEXT.out HE1.out (fun h => absurd h h2))
                go_wp2_with fail
                go_round
                case rel => first | exact ⟨y + 1, by omega, by go_num, HDV.out, hid (HNX.out)⟩ | exact ⟨y + 1, by omega, by go_num, HDW.out, hid (HNX.out)⟩
                case measure => simp [intOf]; omega
          · have a1 : 97 ≤ (p[y].toNat : Int) := by omega
            have a2 : ¬ (p[y].toNat : Int) ≤ 122 := by omega
            have d1 : 48 ≤ (p[y].toNat : Int) := by omega
            have d2 : ¬ (p[y].toNat : Int) ≤ 57 := by omega
            have e1 : ((p[y].toNat : Int) == 46) = false := beq_eq_false_iff_ne.2 (by omega)
            have e1p : ¬ (p[y].toNat : Int) = 46 := by omega
            have e1n : ((p[y].toNat : Int) != 46) = true := by rw [bne, e1]; rfl
            have e2 : ((p[y].toNat : Int) == 45) = false := beq_eq_false_iff_ne.2 (by omega)
            have e2p : ¬ (p[y].toNat : Int) = 45 := by omega
            have e2n : ((p[y].toNat : Int) != 45) = true := by rw [bne, e2]; rfl
            have e3 : ((p[y].toNat : Int) == 95) = false := beq_eq_false_iff_ne.2 (by omega)
            have e3p : ¬ (p[y].toNat : Int) = 95 := by omega
            have e3n : ((p[y].toNat : Int) != 95) = true := by rw [bne, e3]; rfl
            have HRES := hid (HBAD.out (by rw [HEL.out]; simp; omega))
            have D5 := hid (show ∀ h : ¬ (p[y].toNat : Int) ≤ 57, decide ((p[y].toNat : Int) ≤ 57) = false from fun h => decide_eq_false h)
            have D9 := hid (show ∀ h : ¬ (p[y].toNat : Int) ≤ 122, decide ((p[y].toNat : Int) ≤ 122) = false from fun h => decide_eq_false h)
            clear hr
            go_wp2_with fail
            all_goals first
              | (go_ret; exact ⟨by rw [HRES.out]; rfl, HB.out⟩)
              | exact absurd ‹((((p[y].toNat : Int) != 46) = false ∨ ((p[y].toNat : Int) != 45) = false) ∨ ((p[y].toNat : Int) != 95) = false)› (by rw [e1n, e2n, e3n]; decide)
              | exact absurd ‹((((!decide ((p[y].toNat : Int) ≤ 57)) = false ∨ ((p[y].toNat : Int) != 46) = false) ∨ ((p[y].toNat : Int) != 45) = false) ∨ ((p[y].toNat : Int) != 95) = false)› (by rw [e1n, e2n, e3n, D5.out (by omega)]; decide)
              | exact absurd ‹(((((!decide ((p[y].toNat : Int) ≤ 122)) = false ∨ (!decide ((p[y].toNat : Int) ≤ 57)) = false) ∨ ((p[y].toNat : Int) != 46) = false) ∨ ((p[y].toNat : Int) != 45) = false) ∨ ((p[y].toNat : Int) != 95) = false)› (by rw [e1n, e2n, e3n, D5.out (by omega), D9.out (by omega)]; decide)
        · have hye : y = p.size := by omega
          subst hye
          have HFIN := hid (show elemOk p.data.toList = !dt by
            have h1 : p.data.toList.length = p.size := len_eq p
            have h2 := seen_all (l := p.data.toList) (by rw [h1]; exact HSE.out)
            have h3 := HDT.out
            rw [take_all] at h3
            rw [h2, h3])
          cases dt
          · have HOK2 := hid (show (bl (X.take (k + 1))).all elemOk = true by rw [HXJ.out, List.all_append, HOK.out, List.all_cons, HFIN.out]; rfl)
            have HLJ := hid (show (lg || (bl (X.take (k + 1))).any long) = (bj || decide (10 < p.data.toList.length)) by rw [HXJ.out, List.any_append, ← HBJ.out, Bool.or_assoc]; simp [long])
            rw [len_eq] at HLJ
            by_cases h10 : 10 < p.size
            · have h10i : (10 : Int) < (p.size : Int) := by omega
              rw [decide_eq_true h10] at HLJ
              cases bj
              · have HV := hid (show Value.bool true = Value.bool (lg || (bl (X.take (k + 1))).any long) by rw [HLJ.out]; rfl)
                go_wp2_with fail
                go_round
                case rel => exact ⟨k + 1, by omega, by go_num, HV.out, HOK2⟩
                case measure => simp [intOf]; omega
              · have HV := hid (show Value.bool true = Value.bool (lg || (bl (X.take (k + 1))).any long) by rw [HLJ.out]; rfl)
                go_wp2_with fail
                go_round
                case rel => exact ⟨k + 1, by omega, by go_num, HV.out, HOK2⟩
                case measure => simp [intOf]; omega
            · have h10i : ¬ (10 : Int) < (p.size : Int) := by omega
              rw [decide_eq_false h10] at HLJ
              cases bj
              · have HV := hid (show Value.bool false = Value.bool (lg || (bl (X.take (k + 1))).any long) by rw [HLJ.out]; rfl)
                go_wp2_with fail
                go_round
                case rel => exact ⟨k + 1, by omega, by go_num, HV.out, HOK2⟩
                case measure => simp [intOf]; omega
              · have HV := hid (show Value.bool true = Value.bool (lg || (bl (X.take (k + 1))).any long) by rw [HLJ.out]; rfl)
                go_wp2_with fail
                go_round
                case rel => exact ⟨k + 1, by omega, by go_num, HV.out, HOK2⟩
                case measure => simp [intOf]; omega
          · have HRES := hid (bad_one HMEM.out HFIN.out)
            go_wp2_with fail
            go_ret
            exact ⟨by rw [HRES.out]; rfl, HB.out⟩
    · have hke : k = X.length := by omega
      subst hke
      have hXt : X.take X.length = X := List.take_length
      rw [hXt] at HOK HBJ
      rw [HBJ.out] at HLE
      rw [HX.out] at HOK
      clear hXt
      cases bj
      · by_cases h1 : 1 < X.length
        · have h1i : (1 : Int) < (X.length : Int) := by omega
          have hpl : X.length - 1 < X.length := by omega
          have hcell := HCE.out (X.length - 1) hpl
          have HSZ := hid (HXZ.out X[X.length - 1] (List.getElem_mem hpl))
          have HLG := hid (HLA.out hpl)
          generalize X[X.length - 1] = q at *
          have HSU := hid (suffixOf_any q w1 HSZ.out)
          rw [HLG.out] at HSU
          have hc1 : ((X.length : Int) - 1).toNat = X.length - 1 := by omega
          have hc2 : (0 : Int) ≤ (X.length : Int) - 1 := by omega
          have hc3 : (X.length : Int) - 1 < (X.length : Int) := by omega
          by_cases hneg : sufV (lastOf s.data.toList) < 0
          · have HRES := hid (path_4 HOK.out HLE.out (by rw [HXL.out]; exact h1) hneg)
            generalize sufV (lastOf s.data.toList) = sv at *
            go_wp2_with fail
            refine HSU.out.mono ?_
            rintro e w' ⟨rfl, rfl⟩
            go_wp2_with fail
            go_ret
            exact ⟨by rw [HRES.out]; rfl, HB.out⟩
          · have HRES := hid (path_0 HOK.out HLE.out (by rw [HXL.out]; exact h1) hneg)
            generalize sufV (lastOf s.data.toList) = sv at *
            go_wp2_with fail
            refine HSU.out.mono ?_
            rintro e w' ⟨rfl, rfl⟩
            go_wp2_with fail
            go_ret
            exact ⟨by rw [HRES.out]; rfl, HB.out⟩
        · have h1i : ¬ (1 : Int) < (X.length : Int) := by omega
          have HRES := hid (path_00 HOK.out HLE.out (by rw [HXL.out]; exact h1))
          go_wp2_with fail
          go_ret
          exact ⟨by rw [HRES.out]; rfl, HB.out⟩
      · have HRES := hid (path_2 HOK.out HLE.out)
        go_wp2_with fail
        go_ret
        exact ⟨by rw [HRES.out]; rfl, HB.out⟩
end Ve
end Go.Proofs.YtanponneancajaaGreatDoor


namespace Go.Proofs.YtanponneancajaaGreatDoor
open Go.RowKit
namespace Ve
def splitH (l : List UInt8) : List UInt8 := if pathErr l = 0 then pathH l else []
def splitN (l : List UInt8) : Int := if pathErr l = 0 then pathN l else 0
theorem suf_fits {l : List UInt8} (h : pathErr l = 0) (hs : sufE l = true) : sufOk (lastOf l) = true := by
  cases ho : sufOk (lastOf l)
  · exfalso
    unfold pathErr at h
    cases hb : badE l
    · rw [hb] at h
      cases hl : longE l
      · rw [hl, hs, ho] at h; cases h
      · rw [hl] at h; cases h
    · rw [hb] at h; cases h
  · rfl
theorem split_none {l : List UInt8} (h : pathErr l = 0) (he : elems l = [l]) : splitH l = l ∧ splitN l = 0 := by
  have hu : sufE l = false := by unfold sufE; rw [he]; rfl
  unfold splitH splitN pathH pathN
  rw [if_pos h, if_pos h, hu]
  exact ⟨rfl, rfl⟩
theorem split_pos {l : List UInt8} {k : Nat} (h : pathErr l = 0) (he : elems l = elems (l.take k) ++ [l.drop (k + 1)]) (hn : 0 < sufV (l.drop (k + 1))) : splitH l = l.take k ∧ splitN l = sufV (l.drop (k + 1)) := by
  obtain ⟨h1, h2, h3⟩ := slash_last he
  rw [← h2] at hn ⊢
  have hk : likeB (lastOf l) = true := by
    cases e : likeB (lastOf l)
    · unfold sufV at hn; rw [e] at hn; simp at hn
    · rfl
  have hu : sufE l = true := by unfold sufE; rw [hk, decide_eq_true h1]; rfl
  have ho := suf_fits h hu
  have hv : sufV (lastOf l) = (num (restOf (lastOf l))).1 := by unfold sufV; rw [hk, ho]; rfl
  unfold splitH splitN pathH pathN
  rw [if_pos h, if_pos h, hu, hv]
  exact ⟨h3, rfl⟩
theorem split_zero {l : List UInt8} {k : Nat} (h : pathErr l = 0) (he : elems l = elems (l.take k) ++ [l.drop (k + 1)]) (hn : ¬ 0 < sufV (l.drop (k + 1))) : splitH l = l ∧ splitN l = 0 := by
  obtain ⟨h1, h2, h3⟩ := slash_last he
  rw [← h2] at hn
  have hu : sufE l = false := by
    cases e : sufE l
    · rfl
    · exfalso
      have ho := suf_fits h e
      have hk : likeB (lastOf l) = true := by
        unfold sufE at e
        simp only [Bool.and_eq_true] at e
        exact e.2
      have hv : sufV (lastOf l) = (num (restOf (lastOf l))).1 := by unfold sufV; rw [hk, ho]; rfl
      have := suf_pos ho
      omega
  unfold splitH splitN pathH pathN
  rw [if_pos h, if_pos h, hu]
  exact ⟨rfl, rfl⟩
theorem slash_is {c : UInt8} : ((c.toNat : Int) == 47) = true ↔ c = 47 := by
  rw [beq_iff_eq]
  have : (47 : UInt8).toNat = 47 := rfl
  constructor
  · intro h; exact UInt8.toNat_inj.1 (by omega)
  · intro h; rw [h]; rfl
set_option maxRecDepth 100000 in
set_option maxHeartbeats 4000000 in
theorem splitPath_any (s : ByteArray) (w : World) (hs : s.size < 4294967281) :
    Calls Tryz.prog 216 #[.string s] w fun e w' => ∃ H : ByteArray, e = .returned (.tuple #[.string H, .int .i64 (splitN s.data.toList)]) ∧ H.data.toList = splitH s.data.toList ∧ Below w.heap.size w w' := by
  have HP := hid (pathError_any s w hs)
  by_cases h0 : pathErr s.data.toList = 0
  · have H0 := hid h0
    rw [h0] at HP
    clear h0
    go_enter Tryz.func216, Tryz.ntmps216
    go_wp2_with fail
    refine HP.out.mono ?_
    rintro e w1 ⟨rfl, hb⟩
    have HB := hid hb
    clear hb
    go_wp2_with fail
    go_loop [4] (fun i => ∃ j : Nat, j ≤ s.size ∧ i = .int .i64 ((j : Int) - 1) ∧ Hid (∀ t (ht : t < s.size), j ≤ t → s[t] ≠ 47)) (fun i => (intOf i + 1).toNat)
    case atStart => exact ⟨s.size, Nat.le_refl _, rfl, hid (fun t ht h => absurd ht (by omega))⟩
    case round =>
      obtain ⟨j, hj, rfl, HN⟩ := hrel
      by_cases hz : j = 0
      · subst hz
        have HR := hid (split_none H0.out (slash_none (fun t ht => HN.out t (by simpa using ht) (Nat.zero_le _))))
        go_wp2_with fail
        go_ret2
        exact ⟨s, by rw [HR.out.2]; rfl, HR.out.1.symm, HB.out⟩
      · obtain ⟨k, rfl⟩ : ∃ k, j = k + 1 := ⟨j - 1, by omega⟩
        have hki : ((k + 1 : Nat) : Int) - 1 = (k : Int) := by omega
        rw [hki]
        have hlt : k < s.size := by omega
        have hkb := s[k].toNat_lt
        have h0k : (0 : Int) ≤ (k : Int) := by omega
        cases hc : ((s[k].toNat : Int) == 47)
        · have hcn : ((s[k].toNat : Int) != 47) = true := by rw [bne, hc]; rfl
          have hcp : ¬ (s[k].toNat : Int) = 47 := by simpa using hc
          have HN2 := hid (show ∀ t (ht : t < s.size), k ≤ t → s[t] ≠ 47 from fun t ht h => by
            by_cases e : t = k
            · subst e; intro h2; rw [slash_is.2 h2] at hc; cases hc
            · exact HN.out t ht (by omega))
          go_wp2_with fail
          go_round
          case rel => exact ⟨k, by omega, by go_num, HN2⟩
          case measure => (simp [intOf]; try omega)
        · have hcn : ((s[k].toNat : Int) != 47) = false := by rw [bne, hc]; rfl
          have hcp : (s[k].toNat : Int) = 47 := by simpa using hc
          have HSP := hid (slash_split (l := s.data.toList) (k := k) (by simpa using hlt) (slash_is.1 hc) (fun t ht h => HN.out t (by simpa using ht) (by omega)))
          have HT := hid (show (s.extract (k + 1) s.size).data.toList = s.data.toList.drop (k + 1) from ext_drop s (k + 1))
          have hTs : (s.extract (k + 1) s.size).size ≤ maxLen := by rw [ByteArray.size_extract]; unfold maxLen; omega
          have HSU := hid (suffixOf_any (s.extract (k + 1) s.size) w1 hTs)
          rw [HT.out] at HSU
          have s1 : (0 : Int) ≤ (k : Int) + 1 := by omega
          have s2 : (k : Int) + 1 ≤ (s.size : Int) := by omega
          have s3 : (k : Int) ≤ (s.size : Int) := by omega
          have HK := hid (show (s.extract 0 k).data.toList = s.data.toList.take k by rw [extract_list]; simp)
          by_cases hn : 0 < sufV (s.data.toList.drop (k + 1))
          · have HR := hid (split_pos H0.out HSP.out hn)
            generalize sufV (s.data.toList.drop (k + 1)) = n at *
            go_wp2_with fail
            refine HSU.out.mono ?_
            rintro e w' ⟨rfl, rfl⟩
            go_wp2_with fail
            go_ret2
            exact ⟨s.extract 0 k, by rw [HR.out.2]; rfl, HK.out.trans HR.out.1.symm, HB.out⟩
          · have HR := hid (split_zero H0.out HSP.out hn)
            generalize sufV (s.data.toList.drop (k + 1)) = n at *
            go_wp2_with fail
            refine HSU.out.mono ?_
            rintro e w' ⟨rfl, rfl⟩
            go_wp2_with fail
            go_ret2
            exact ⟨s, by rw [HR.out.2]; rfl, HR.out.1.symm, HB.out⟩
  · have HR := hid (show splitH s.data.toList = [] ∧ splitN s.data.toList = 0 from ⟨by unfold splitH; rw [if_neg h0], by unfold splitN; rw [if_neg h0]⟩)
    rw [HR.out.2]
    have hpos : (0 : Int) < (pathErr s.data.toList : Int) := by omega
    generalize (pathErr s.data.toList : Int) = c at *
    clear h0
    go_enter Tryz.func216, Tryz.ntmps216
    go_wp2_with fail
    refine HP.out.mono ?_
    rintro e w1 ⟨rfl, hb⟩
    have HB := hid hb
    clear hb
    go_wp2_with fail
    go_ret2
    exact ⟨⟨#[]⟩, rfl, HR.out.1.symm, HB.out⟩
end Ve
end Go.Proofs.YtanponneancajaaGreatDoor


namespace Go.Proofs.YtanponneancajaaGreatDoor
open Go.RowKit
namespace Ve
theorem n0_pos {l : List UInt8} (h : verErr l = 0) : 0 ≤ nAt l 0 ∧ nAt l 0 ≤ 999999 := by
  unfold verErr at h
  by_cases hc : marked l = false ∨ (coreOf l).length ≠ 3
  · rw [if_pos hc] at h; omega
  rw [if_neg hc] at h
  have h3 : (coreOf l).length = 3 := by
    rcases Nat.decEq (coreOf l).length 3 with h | h
    · exact absurd (Or.inr h) hc
    · exact h
  have hn : numsErr (coreOf l) = 0 := by
    cases e : hasPre l
    · rw [e] at h; exact h
    · rw [e] at h
      have h' : worse (numsErr (coreOf l)) (pre (preOf l)) = 0 := h
      unfold worse at h'
      by_cases q : numsErr (coreOf l) = 1 ∨ pre (preOf l) = 0
      · rw [if_pos q] at h'; exact h'
      · rw [if_neg q] at h'; exact absurd (Or.inr h') q
  obtain ⟨p0, p1, p2, hco⟩ : ∃ p0 p1 p2, coreOf l = [p0, p1, p2] := by
    match e : coreOf l, h3 with
    | [a, b, c], _ => exact ⟨a, b, c, rfl⟩
  have hz := ncode0 hn
  rw [hco] at hz
  have n0 : nAt l 0 = (num p0).1 := by simp [nAt, numsOf, hco]
  obtain ⟨_, l0, u0⟩ := itoa_num p0 (hz p0 (by simp))
  rw [n0]; exact ⟨l0, u0⟩
theorem pathN_is {l : List UInt8} (h : pathErr l = 0) : pathN l = 0 ∨ 2 ≤ pathN l := by
  unfold pathN
  cases hu : sufE l
  · left; rfl
  · right; exact suf_pos (suf_fits h hu)
set_option maxRecDepth 100000 in
set_option maxHeartbeats 4000000 in
theorem modError_any (p v : ByteArray) (w : World) (hp : p.size < 4294967281) (hv : v.size < 4294967281) :
    Calls Tryz.prog 179 #[.agg #[.string p, .string v]] w fun e w' => e = .returned (.int .i64 (modErr p.data.toList v.data.toList : Nat)) ∧ Below w.heap.size w w' := by
  have HB0 := hid ((Below.refl w.heap.size w).alloc (Nat.le_refl _) (.cells #[.string p, .string v] 51))
  have HP := hid (pathError_any p (w.alloc (.cells #[.string p, .string v] 51)) hp)
  have HM := hid (show modErr p.data.toList v.data.toList = if pathErr p.data.toList = 0 then (if verErr v.data.toList = 0 then (if fitsB (nAt v.data.toList 0) (pathN p.data.toList) then 0 else 4) else verErr v.data.toList) else pathErr p.data.toList from rfl)
  by_cases h0 : pathErr p.data.toList = 0
  · rw [if_pos h0] at HM
    have HV := hid (fun W => verOf_any v W hv)
    by_cases h1 : verErr v.data.toList = 0
    · rw [if_pos h1] at HM
      have HSP := hid (fun W => splitPath_any p W hp)
      have e2 : splitN p.data.toList = pathN p.data.toList := by unfold splitN; rw [if_pos h0]
      rw [e2] at HSP
      have HPN := hid (pathN_is h0)
      have HN0 := hid (n0_pos h1)
      have HF := hid (show fitsB (nAt v.data.toList 0) (pathN p.data.toList) = (if pathN p.data.toList == 0 then (nAt v.data.toList 0 == 0 || nAt v.data.toList 0 == 1) else nAt v.data.toList 0 == pathN p.data.toList) from rfl)
      have H1 := hid h1
      rw [h0] at HP
      clear h0 h1 e2
      go_enter Tryz.func179, Tryz.ntmps179
      go_wp2_with fail
      refine HP.out.mono ?_
      rintro e w1 ⟨rfl, hb1⟩
      have HB1 := hid (HB0.out.trans (hb1.mono HB0.out.size))
      obtain ⟨⟨r0, r1⟩, rz⟩ := res2 (hb1.mono (by simp))
      clear hb1
      go_wp2_with fail
      refine (HV.out _).mono ?_
      rintro e w2 ⟨hv2, hb2⟩
      obtain ⟨sa, cap, X2, rfl⟩ : ∃ sa cap X2, e = .returned (.tuple #[.agg #[.int .i64 (nAt v.data.toList 0), .int .i64 (nAt v.data.toList 1), .int .i64 (nAt v.data.toList 2), .slice sa X2 cap], .int .i64 0]) := by
        rcases hv2 with ⟨h, _⟩ | ⟨_, sa, cap, X2, e1, _⟩
        · exact absurd H1.out h
        · exact ⟨sa, cap, _, e1⟩
      have HB2 := hid (HB1.out.trans (hb2.mono HB1.out.size))
      have HC0 := hid (cell_below hb2 r0)
      have HBV := hid ((Below.refl w2.heap.size w2).alloc (Nat.le_refl _) (.cells #[.int .i64 (nAt v.data.toList 0), .int .i64 (nAt v.data.toList 1), .int .i64 (nAt v.data.toList 2), .slice sa X2 cap] 26))
      have c0 := cell_below HBV.out HC0.out
      have HB3 := hid (HB2.out.trans (HBV.out.mono HB2.out.size))
      generalize nAt v.data.toList 1 = b1 at *
      generalize nAt v.data.toList 2 = b2 at *
      generalize hn0 : nAt v.data.toList 0 = b0 at *
      clear hv2 hb2 hn0 r0 r1 rz
      go_wp2_with fail
      refine (HSP.out _).mono ?_
      rintro e w4 ⟨H, rfl, _, hb4⟩
      have HB4 := hid (HB3.out.trans (hb4.mono HB3.out.size))
      obtain ⟨⟨q0, q1, q2, q3⟩, _, qz⟩ := res4 (hb4.mono (by simp))
      generalize pathN p.data.toList = n at *
      clear hb4 c0
      have hb0 := HN0.out.1
      have hb9 := HN0.out.2
      by_cases hz : n = 0
      · subst hz
        by_cases hg : 1 < b0
        · have HR := hid (show (if fitsB b0 0 then 0 else 4) = 4 by
            have : fitsB b0 0 = false := by
              rw [HF.out]
              simp; omega
            rw [this]; rfl)
          rw [HR.out] at HM
          go_wp2_with fail
          go_ret
          exact ⟨by rw [HM.out]; rfl, HB4.out⟩
        · have HR := hid (show (if fitsB b0 0 then 0 else 4) = 0 by
            have : fitsB b0 0 = true := by
              rw [HF.out]
              simp; omega
            rw [this]; rfl)
          rw [HR.out] at HM
          go_wp2_with fail
          go_ret
          exact ⟨by rw [HM.out]; rfl, HB4.out⟩
      · have hpos : 0 < n := by have := HPN.out; omega
        have hnz : (n == 0) = false := beq_eq_false_iff_ne.2 hz
        by_cases hg : b0 = n
        · subst hg
          have HR := hid (show (if fitsB b0 b0 then 0 else 4) = 0 by
            have : fitsB b0 b0 = true := by
              rw [HF.out, hnz]; simp
            rw [this]; rfl)
          rw [HR.out] at HM
          have hbb : (b0 == b0) = true := by simp
          have hbn : (b0 != b0) = false := by simp
          go_wp2_with fail
          go_ret
          exact ⟨by rw [HM.out]; rfl, HB4.out⟩
        · have hbb : (b0 == n) = false := beq_eq_false_iff_ne.2 hg
          have hbn : (b0 != n) = true := by rw [bne, hbb]; rfl
          have HR := hid (show (if fitsB b0 n then 0 else 4) = 4 by
            have : fitsB b0 n = false := by
              rw [HF.out, hnz]; simpa using hg
            rw [this]; rfl)
          rw [HR.out] at HM
          go_wp2_with fail
          go_ret
          exact ⟨by rw [HM.out]; rfl, HB4.out⟩
    · rw [if_neg h1] at HM
      have H1 := hid h1
      have hpos : (0 : Int) < (verErr v.data.toList : Int) := by omega
      rw [h0] at HP
      rw [HM.out]
      clear h0 h1
      go_enter Tryz.func179, Tryz.ntmps179
      go_wp2_with fail
      refine HP.out.mono ?_
      rintro e w1 ⟨rfl, hb1⟩
      have HB1 := hid (HB0.out.trans (hb1.mono HB0.out.size))
      obtain ⟨⟨r0, r1⟩, rz⟩ := res2 (hb1.mono (by simp))
      clear hb1
      go_wp2_with fail
      refine (HV.out _).mono ?_
      rintro e w2 ⟨hv2, hb2⟩
      obtain rfl : e = .returned (.tuple #[.agg #[.int .i64 0, .int .i64 0, .int .i64 0, .slice none 0 0], .int .i64 (verErr v.data.toList : Nat)]) := by
        rcases hv2 with ⟨_, h⟩ | ⟨h, _⟩
        · exact h
        · exact absurd h H1.out
      have HB2 := hid (HB1.out.trans (hb2.mono HB1.out.size))
      have HBV := hid ((Below.refl w2.heap.size w2).alloc (Nat.le_refl _) (.cells #[.int .i64 0, .int .i64 0, .int .i64 0, .slice none 0 0] 26))
      have HB3 := hid (HB2.out.trans (HBV.out.mono HB2.out.size))
      clear hv2 hb2 r0 r1 rz
      generalize hce : (verErr v.data.toList : Int) = c at *
      have HCE := hid hce
      clear hce
      go_wp2_with fail
      go_ret
      exact ⟨by rw [HCE.out]; rfl, HB3.out⟩
  · rw [if_neg h0] at HM
    have hpos : (0 : Int) < (pathErr p.data.toList : Int) := by omega
    rw [HM.out]
    generalize (pathErr p.data.toList : Int) = c at *
    clear h0 HM
    go_enter Tryz.func179, Tryz.ntmps179
    go_wp2_with fail
    refine HP.out.mono ?_
    rintro e w1 ⟨rfl, hb1⟩
    have HB1 := hid (HB0.out.trans (hb1.mono HB0.out.size))
    clear hb1
    go_wp2_with fail
    go_ret
    exact ⟨rfl, HB1.out⟩
end Ve
end Go.Proofs.YtanponneancajaaGreatDoor


namespace Go.Proofs.YtanponneancajaaGreatDoor
open Go.RowKit
namespace Ve
def reqsR (own : ByteArray) (L : List Bm) : Nat × Nat := match fstE (reqE own L) L.length with
  | some i => (reqE own L i, i)
  | none => (0, 0)
theorem reqsR_some {own : ByteArray} {L : List Bm} {k : Nat} (h0 : ∀ j, j < k → reqE own L j = 0) (hk : k < L.length) (h : reqE own L k ≠ 0) : reqsR own L = (reqE own L k, k) := by
  unfold reqsR; rw [fstE_some h0 h hk]
theorem reqsR_none {own : ByteArray} {L : List Bm} (h : ∀ j, j < L.length → reqE own L j = 0) : reqsR own L = (0, 0) := by
  unfold reqsR; rw [fstE_none h]
theorem zero_next {E : Nat → Nat} {k : Nat} (h : ∀ j, j < k → E j = 0) (hk : E k = 0) : ∀ j, j < k + 1 → E j = 0 := fun j hj => by
  rcases Nat.lt_or_ge j k with h1 | h1
  · exact h j h1
  · have : j = k := by omega
    subst this; exact hk
theorem leq_no (a b : ByteArray) : (Op.bytesLess a.toList b.toList || a.toList == b.toList) = noLess b a := by
  have h := cb_more a.toList b.toList
  rw [ByteArray.toList_eq, ByteArray.toList_eq] at h ⊢
  unfold noLess
  rw [cb_swap a.data.toList b.data.toList]
  cases hx : (Op.bytesLess a.data.toList b.data.toList || a.data.toList == b.data.toList) <;> rw [hx] at h <;> simp at h ⊢ <;> omega
theorem leq_is (a b : ByteArray) (X : World) : (binOp BinOp.leq 9 (.string a) (.string b)).run Tryz.prog X = .ok (.bool (noLess b a)) X := by rw [← leq_no]; rfl
set_option maxHeartbeats 4000000 in
set_option maxRecDepth 100000 in
theorem reqsE_some (own : ByteArray) (L : List Bm) (b o c : Nat) (w : World) (hn : L.length ≤ 1000000) (hs : shortL L)
    (hc : ∀ j (h : j < L.length), w.cell? ⟨b, o + j * 2, none⟩ = some (.string L[j].1) ∧ w.cell? ⟨b, o + j * 2 + 1, none⟩ = some (.string L[j].2)) :
    Calls Tryz.prog 181 #[.slice (some ⟨b, o, none⟩) L.length c, .string own] w fun e w' => e = .returned (.tuple #[.int .i64 ((reqsR own L).1 : Nat), .int .i64 ((reqsR own L).2 : Nat)]) ∧ Below w.heap.size w w' := by
  have HC := hid hc
  have HS := hid hs
  generalize hr : reqsR own L = r
  have HR := hid hr
  clear hc hs hr
  go_enter Tryz.func181, Tryz.ntmps181
  go_wp2_with fail
  go_loopw [6] (fun i wr => ∃ k : Nat, k ≤ L.length ∧ i = .int .i64 k ∧ Hid (∀ j, j < k → reqE own L j = 0) ∧ Hid (Below w.heap.size w wr)) (fun i _ => L.length - (intOf i).toNat)
  case atStart => exact ⟨0, Nat.zero_le _, rfl, hid (fun j hj => absurd hj (by omega)), hid (Below.refl _ _)⟩
  case round =>
    obtain ⟨k, hk, rfl, HZ, HB⟩ := hrel
    by_cases hlt : k < L.length
    · have hx := cell_below HB.out (HC.out k hlt).1
      have hy := cell_below HB.out (HC.out k hlt).2
      have hkI : (k : Int) < (L.length : Int) := by omega
      have HM := hid (modError_any L[k].1 L[k].2 wr (by have := (HS.out L[k] (List.getElem_mem hlt)).1; omega) (by have := (HS.out L[k] (List.getElem_mem hlt)).2; omega))
      rw [show modErr L[k].1.data.toList L[k].2.data.toList = mErr L[k] from rfl] at HM
      have HN := hid (fun h => reqsR_some HZ.out hlt h)
      have HY := hid (fun h => zero_next HZ.out h)
      have HLT := hid hlt
      rcases Nat.eq_zero_or_pos k with h00 | h00
      · have HE := hid (show reqE own L k = reqW own none L[k] by subst h00; exact reqE_0 hlt)
        have g3 : decide (0 < k) = false := decide_eq_false (by omega)
        generalize L[k] = x at *
        obtain ⟨p, v⟩ := x
        clear hlt h00
        by_cases h0 : mErr (p, v) = 0
        · rw [h0] at HM
          by_cases h1 : p = own
          · have HV := hid (HN.out (by rw [HE.out, reqW_own h0 h1]; decide))
            rw [HE.out, reqW_own h0 h1] at HV
            rw [h1] at hx HM
            have hq := str_refl own
            clear h0 h1
            go_wp2_with fail
            refine HM.out.mono ?_
            rintro e w1 ⟨rfl, hb⟩
            have HB1 := hid (HB.out.trans (hb.mono HB.out.size))
            replace hx := cell_below hb hx
            replace hy := cell_below hb hy
            clear hb
            go_wp2_with fail
            go_ret2
            exact ⟨by rw [← HR.out, HV.out]; rfl, HB1.out⟩
          · have HV := hid (HY.out (by rw [HE.out, reqW_none h0 h1]))
            have hq := str_ne h1
            clear h0 h1
            go_wp2_with fail
            refine HM.out.mono ?_
            rintro e w1 ⟨rfl, hb⟩
            have HB1 := hid (HB.out.trans (hb.mono HB.out.size))
            replace hx := cell_below hb hx
            replace hy := cell_below hb hy
            clear hb
            go_wp2_with fail
            go_quiet (fail)
            go_wp2_with fail
            go_roundw
            case rel => exact ⟨k + 1, by have := HLT.out; omega, by go_num, HV, hid (below_drawn_of HB1.out _)⟩
            case measure => have := HLT.out; simp [intOf]; omega
        · have HV := hid (HN.out (by rw [HE.out, reqW_bad h0]; exact h0))
          rw [HE.out, reqW_bad h0] at HV
          have hpos : (0 : Int) < (mErr (p, v) : Int) := by omega
          generalize mErr (p, v) = z at *
          clear h0
          go_wp2_with fail
          refine HM.out.mono ?_
          rintro e w1 ⟨rfl, hb⟩
          have HB1 := hid (HB.out.trans (hb.mono HB.out.size))
          clear hb
          go_wp2_with fail
          go_ret2
          exact ⟨by rw [← HR.out, HV.out]; rfl, HB1.out⟩
      · obtain ⟨q, hq⟩ : ∃ q, k = q + 1 := ⟨k - 1, by omega⟩
        have hql : q < L.length := by omega
        have HE := hid (show reqE own L k = reqW own (some L[q]) L[k] by subst hq; exact reqE_1 hlt)
        have hxq := cell_below HB.out (HC.out q hql).1
        have gw : IntKind.i64.wrap ((k : Int) - 1) = (q : Int) := by rw [IntKind.wrap_i64]; omega
        have gw2 : (k : Int) - 1 = (q : Int) := by omega
        have g1 : (0 : Int) ≤ (q : Int) := by omega
        have g2 : (q : Int) < (L.length : Int) := by omega
        have g3 : (0 : Int) < (k : Int) := by omega
        have g4 : decide (0 < k) = true := decide_eq_true (by omega)
        generalize L[k] = x at *
        generalize L[q] = y at *
        obtain ⟨p, v⟩ := x
        obtain ⟨p', v'⟩ := y
        clear hlt hql hq h00
        by_cases h0 : mErr (p, v) = 0
        · rw [h0] at HM
          by_cases h1 : p = own
          · have HV := hid (HN.out (by rw [HE.out, reqW_own h0 h1]; decide))
            rw [HE.out, reqW_own h0 h1] at HV
            rw [h1] at hx HM
            have hq := str_refl own
            clear h0 h1
            go_wp2_with fail
            refine HM.out.mono ?_
            rintro e w1 ⟨rfl, hb⟩
            have HB1 := hid (HB.out.trans (hb.mono HB.out.size))
            replace hx := cell_below hb hx
            replace hy := cell_below hb hy
            clear hb
            go_wp2_with fail
            go_ret2
            exact ⟨by rw [← HR.out, HV.out]; rfl, HB1.out⟩
          · have hle := leq_is p p'
            have hq := str_ne h1
            cases hz : noLess p' p
            · have HV := hid (HY.out (by rw [HE.out, reqW_some h0 h1, if_neg (by rw [hz]; decide)]))
              rw [hz] at hle
              clear h0 h1 hz
              go_wp2_with fail
              refine HM.out.mono ?_
              rintro e w1 ⟨rfl, hb⟩
              have HB1 := hid (HB.out.trans (hb.mono HB.out.size))
              replace hx := cell_below hb hx
              replace hy := cell_below hb hy
              replace hxq := cell_below hb hxq
              clear hb
              go_wp2_with fail
              go_quiet (fail)
              go_wp2_with fail
              go_roundw
              case rel => exact ⟨k + 1, by have := HLT.out; omega, by go_num, HV, hid (below_drawn_of HB1.out _)⟩
              case measure => have := HLT.out; simp [intOf]; omega
            · have HV := hid (HN.out (by rw [HE.out, reqW_some h0 h1, if_pos hz]; decide))
              rw [HE.out, reqW_some h0 h1, if_pos hz] at HV
              rw [hz] at hle
              clear h0 h1 hz
              go_wp2_with fail
              refine HM.out.mono ?_
              rintro e w1 ⟨rfl, hb⟩
              have HB1 := hid (HB.out.trans (hb.mono HB.out.size))
              replace hx := cell_below hb hx
              replace hy := cell_below hb hy
              replace hxq := cell_below hb hxq
              clear hb
              go_wp2_with fail
              go_quiet (fail)
              go_wp2_with fail
              go_ret2
              exact ⟨by rw [← HR.out, HV.out]; rfl, below_drawn_of HB1.out _⟩
        · have HV := hid (HN.out (by rw [HE.out, reqW_bad h0]; exact h0))
          rw [HE.out, reqW_bad h0] at HV
          have hpos : (0 : Int) < (mErr (p, v) : Int) := by omega
          generalize mErr (p, v) = z at *
          clear h0
          go_wp2_with fail
          refine HM.out.mono ?_
          rintro e w1 ⟨rfl, hb⟩
          have HB1 := hid (HB.out.trans (hb.mono HB.out.size))
          clear hb
          go_wp2_with fail
          go_ret2
          exact ⟨by rw [← HR.out, HV.out]; rfl, HB1.out⟩
    · have HV := hid (reqsR_none (own := own) (L := L) (fun j hj => HZ.out j (by omega)))
      go_wp2_with fail
      go_ret2
      exact ⟨by rw [← HR.out, HV.out]; rfl, HB.out⟩
theorem reqsE_none (own : ByteArray) (a : Option Addr) (c : Nat) (w : World) : Calls Tryz.prog 181 #[.slice a 0 c, .string own] w fun e w' => e = .returned (.tuple #[.int .i64 0, .int .i64 0]) ∧ Below w.heap.size w w' := by
  go_enter Tryz.func181, Tryz.ntmps181
  go_wp2_with fail
  go_loopw [6] (fun i wr => i = .int .i64 0 ∧ wr = w) (fun i _ => 0)
  case atStart => exact ⟨rfl, rfl⟩
  case round =>
    obtain ⟨rfl, rfl⟩ := hrel
    go_wp2_with fail
    go_ret2
    exact ⟨rfl, Below.refl _ _⟩
theorem reqsE_any (own : ByteArray) (L : List Bm) (v : Value) (w : World) (hn : L.length ≤ 1000000) (hs : shortL L) (hv : MsAt w v L) :
    Calls Tryz.prog 181 #[v, .string own] w fun e w' => e = .returned (.tuple #[.int .i64 ((reqsR own L).1 : Nat), .int .i64 ((reqsR own L).2 : Nat)]) ∧ Below w.heap.size w w' := by
  obtain ⟨a, c, rfl, _, h⟩ := hv
  cases L with
  | nil => exact reqsE_none own a c w
  | cons x r =>
    obtain ⟨b, o, rfl, h2⟩ := h (by simp)
    exact reqsE_some own (x :: r) b o c w hn hs h2
end Ve
end Go.Proofs.YtanponneancajaaGreatDoor


namespace Go.Proofs.YtanponneancajaaGreatDoor
open Go.RowKit
namespace Ve
def atOf : Option Nat → Int
  | none => -1
  | some i => (i : Int)
def faultV (r : Nat × Option Nat) : Value := .agg #[.int .i64 (r.1 : Nat), .int .i64 (atOf r.2)]
theorem rbare_any (n : Int) (w : World) : Calls Tryz.prog 84 #[.int .i64 n] w fun e w' => e = .returned (.agg #[.int .i64 n, .int .i64 (-1)]) ∧ Below w.heap.size w w' := by
  go_enter Tryz.func84, Tryz.ntmps84
  go_wp2_with fail
  refine bodyPost_ret (v := .agg #[.int .i64 n, .int .i64 (-1)]) (by simp [results, Tryz.results84, go_sem]) rfl ⟨rfl, ?_⟩
  exact (Below.refl w.heap.size w).alloc (Nat.le_refl _) _
theorem fine_any (w : World) : Calls Tryz.prog 88 #[] w fun e w' => e = .returned (.agg #[.int .i64 0, .int .i64 (-1)]) ∧ Below w.heap.size w w' := by
  go_enter Tryz.func88, Tryz.ntmps88
  go_wp2_with fail
  refine bodyPost_ret (v := .agg #[.int .i64 0, .int .i64 (-1)]) (by simp [results, Tryz.results88, go_sem]) rfl ⟨rfl, ?_⟩
  exact (Below.refl w.heap.size w).alloc (Nat.le_refl _) _
end Ve
end Go.Proofs.YtanponneancajaaGreatDoor
