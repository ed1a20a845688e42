/-
  RefL FileO FileU
-/
import Derived.Test.YtjhlkjgijbobcaaGreatDoorFt23
import Derived.Test.YtjhlkjgijbobcaaGreatDoorFt40
import Derived.Laws.CopyRow
import Derived.Lib.AppendZerosOnto
import Derived.Lib.Overlaps
import Derived.Deep.RegionLaw
import Derived.Shelf.Spec.SlicesInsert
namespace Go.Proofs.YtjhlkjgijbobcaaGreatDoor
open Go.RowKit
namespace Ve
def splitH (l : List UInt8) : List UInt8 := if pathErr l = 0 then pathH l else []
def splitN (l : List UInt8) : Int := if pathErr l = 0 then pathN l else 0
theorem suf_fits {l : List UInt8} (h : pathErr l = 0) (hs : sufE l = true) : sufOk (lastOf l) = true := by
  cases ho : sufOk (lastOf l)
  · exfalso
    unfold pathErr at h
    cases hb : badE l
    · rw [hb] at h
      cases hl : longE l
      · rw [hl, hs, ho] at h; cases h
      · rw [hl] at h; cases h
    · rw [hb] at h; cases h
  · rfl
theorem split_none {l : List UInt8} (h : pathErr l = 0) (he : elems l = [l]) : splitH l = l ∧ splitN l = 0 := by
  have hu : sufE l = false := by unfold sufE; rw [he]; rfl
  unfold splitH splitN pathH pathN
  rw [if_pos h, if_pos h, hu]
  exact ⟨rfl, rfl⟩
theorem split_pos {l : List UInt8} {k : Nat} (h : pathErr l = 0) (he : elems l = elems (l.take k) ++ [l.drop (k + 1)]) (hn : 0 < sufV (l.drop (k + 1))) : splitH l = l.take k ∧ splitN l = sufV (l.drop (k + 1)) := by
  obtain ⟨h1, h2, h3⟩ := slash_last he
  rw [← h2] at hn ⊢
  have hk : likeB (lastOf l) = true := by
    cases e : likeB (lastOf l)
    · unfold sufV at hn; rw [e] at hn; simp at hn
    · rfl
  have hu : sufE l = true := by unfold sufE; rw [hk, decide_eq_true h1]; rfl
  have ho := suf_fits h hu
  have hv : sufV (lastOf l) = (num (restOf (lastOf l))).1 := by unfold sufV; rw [hk, ho]; rfl
  unfold splitH splitN pathH pathN
  rw [if_pos h, if_pos h, hu, hv]
  exact ⟨h3, rfl⟩
theorem split_zero {l : List UInt8} {k : Nat} (h : pathErr l = 0) (he : elems l = elems (l.take k) ++ [l.drop (k + 1)]) (hn : ¬ 0 < sufV (l.drop (k + 1))) : splitH l = l ∧ splitN l = 0 := by
  obtain ⟨h1, h2, h3⟩ := slash_last he
  rw [← h2] at hn
  have hu : sufE l = false := by
    cases e : sufE l
    · rfl
    · exfalso
      have ho := suf_fits h e
      have hk : likeB (lastOf l) = true := by
        unfold sufE at e
        simp only [Bool.and_eq_true] at e
        exact e.2
      have hv : sufV (lastOf l) = (num (restOf (lastOf l))).1 := by unfold sufV; rw [hk, ho]; rfl
      have := suf_pos ho
      omega
  unfold splitH splitN pathH pathN
  rw [if_pos h, if_pos h, hu]
  exact ⟨rfl, rfl⟩
theorem slash_is {c : UInt8} : ((c.toNat : Int) == 47) = true ↔ c = 47 := by
  rw [beq_iff_eq]
  have : (47 : UInt8).toNat = 47 := rfl
  constructor
  · intro h; exact UInt8.toNat_inj.1 (by omega)
  · intro h; rw [h]; rfl
set_option maxRecDepth 100000 in
set_option maxHeartbeats 4000000 in
theorem splitPath_any (s : ByteArray) (w : World) (hs : s.size < 4294967281) :
    Calls Tryz.prog 57 #[.string s] w fun e w' => ∃ H : ByteArray, e = .returned (.tuple #[.string H, .int .i64 (splitN s.data.toList)]) ∧ H.data.toList = splitH s.data.toList ∧ Below w.heap.size w w' := by
  have HP := hid (pathError_any s w hs)
  by_cases h0 : pathErr s.data.toList = 0
  · have H0 := hid h0
    rw [h0] at HP
    clear h0
    go_enter Tryz.func57, Tryz.ntmps57
    go_wp2_with fail
    refine HP.out.mono ?_
    rintro e w1 ⟨rfl, hb⟩
    have HB := hid hb
    clear hb
    go_wp2_with fail
    go_loop [4] (fun i => ∃ j : Nat, j ≤ s.size ∧ i = .int .i64 ((j : Int) - 1) ∧ Hid (∀ t (ht : t < s.size), j ≤ t → s[t] ≠ 47)) (fun i => (intOf i + 1).toNat)
    case atStart => exact ⟨s.size, Nat.le_refl _, rfl, hid (fun t ht h => absurd ht (by omega))⟩
    case round =>
      obtain ⟨j, hj, rfl, HN⟩ := hrel
      by_cases hz : j = 0
      · subst hz
        have HR := hid (split_none H0.out (slash_none (fun t ht => HN.out t (by simpa using ht) (Nat.zero_le _))))
        go_wp2_with fail
        go_ret2
        exact ⟨s, by rw [HR.out.2]; rfl, HR.out.1.symm, HB.out⟩
      · obtain ⟨k, rfl⟩ : ∃ k, j = k + 1 := ⟨j - 1, by omega⟩
        have hki : ((k + 1 : Nat) : Int) - 1 = (k : Int) := by omega
        rw [hki]
        have hlt : k < s.size := by omega
        have hkb := s[k].toNat_lt
        have h0k : (0 : Int) ≤ (k : Int) := by omega
        cases hc : ((s[k].toNat : Int) == 47)
        · have hcn : ((s[k].toNat : Int) != 47) = true := by rw [bne, hc]; rfl
          have hcp : ¬ (s[k].toNat : Int) = 47 := by simpa using hc
          have HN2 := hid (show ∀ t (ht : t < s.size), k ≤ t → s[t] ≠ 47 from fun t ht h => by
            by_cases e : t = k
            · subst e; intro h2; rw [slash_is.2 h2] at hc; cases hc
            · exact HN.out t ht (by omega))
          go_wp2_with fail
          go_round
          case rel => exact ⟨k, by omega, by go_num, HN2⟩
          case measure => (simp [intOf]; try omega)
        · have hcn : ((s[k].toNat : Int) != 47) = false := by rw [bne, hc]; rfl
          have hcp : (s[k].toNat : Int) = 47 := by simpa using hc
          have HSP := hid (slash_split (l := s.data.toList) (k := k) (by simpa using hlt) (slash_is.1 hc) (fun t ht h => HN.out t (by simpa using ht) (by omega)))
          have HT := hid (show (s.extract (k + 1) s.size).data.toList = s.data.toList.drop (k + 1) from ext_drop s (k + 1))
          have hTs : (s.extract (k + 1) s.size).size ≤ maxLen := by rw [ByteArray.size_extract]; unfold maxLen; omega
          have HSU := hid (suffixOf_any (s.extract (k + 1) s.size) w1 hTs)
          rw [HT.out] at HSU
          have s1 : (0 : Int) ≤ (k : Int) + 1 := by omega
          have s2 : (k : Int) + 1 ≤ (s.size : Int) := by omega
          have s3 : (k : Int) ≤ (s.size : Int) := by omega
          have HK := hid (show (s.extract 0 k).data.toList = s.data.toList.take k by rw [extract_list]; simp)
          by_cases hn : 0 < sufV (s.data.toList.drop (k + 1))
          · have HR := hid (split_pos H0.out HSP.out hn)
            generalize sufV (s.data.toList.drop (k + 1)) = n at *
            go_wp2_with fail
            refine HSU.out.mono ?_
            rintro e w' ⟨rfl, rfl⟩
            go_wp2_with fail
            go_ret2
            exact ⟨s.extract 0 k, by rw [HR.out.2]; rfl, HK.out.trans HR.out.1.symm, HB.out⟩
          · have HR := hid (split_zero H0.out HSP.out hn)
            generalize sufV (s.data.toList.drop (k + 1)) = n at *
            go_wp2_with fail
            refine HSU.out.mono ?_
            rintro e w' ⟨rfl, rfl⟩
            go_wp2_with fail
            go_ret2
            exact ⟨s, by rw [HR.out.2]; rfl, HR.out.1.symm, HB.out⟩
  · have HR := hid (show splitH s.data.toList = [] ∧ splitN s.data.toList = 0 from ⟨by unfold splitH; rw [if_neg h0], by unfold splitN; rw [if_neg h0]⟩)
    rw [HR.out.2]
    have hpos : (0 : Int) < (pathErr s.data.toList : Int) := by omega
    generalize (pathErr s.data.toList : Int) = c at *
    clear h0
    go_enter Tryz.func57, Tryz.ntmps57
    go_wp2_with fail
    refine HP.out.mono ?_
    rintro e w1 ⟨rfl, hb⟩
    have HB := hid hb
    clear hb
    go_wp2_with fail
    go_ret2
    exact ⟨⟨#[]⟩, rfl, HR.out.1.symm, HB.out⟩
end Ve
end Go.Proofs.YtjhlkjgijbobcaaGreatDoor
namespace Go.Proofs.YtjhlkjgijbobcaaGreatDoor
open Go.RowKit
namespace Ve
theorem copy_row2 (w : World) (ty : TypeId) (g o dLen dCap : Nat) (a : Addr) (sLen sCap k : Nat) (cur : Array Value) (t : TypeId) (cs : List Value) (hk : Nat.min sLen dLen = k)
    (hg : w.heap[g]? = some (.cells cur t (0, 0))) (hn : cs.length = k * 2) (hsrc : ∀ j v, cs[j]? = some v → w.cell? (a.add j) = some v) (hfit : o + cs.length ≤ cur.size) (h1 : ∀ v ∈ cs, v.oneCell' = true) :
    (Builtin.copy_ #[22, 22] ty #[.slice (some ⟨g, o, none⟩) dLen dCap, .slice (some a) sLen sCap]).run Tryz.prog w =
      .ok (goInt k) (w.setRow g (cur.toList.take o ++ cs ++ cur.toList.drop (o + cs.length)).toArray) := by
  have hl := run_loadCells_list (P := Tryz.prog) w a cs hsrc
  have hst := run_storeCells_at Tryz.prog g o t cs 0 cur w hg (by simpa using hfit) h1
  obtain ⟨i0, hi, hz0, hz1, hz2⟩ := info_parts infoMod
  simp [Builtin.copy_, run_underlying Tryz.underlying22, Builtin.lenOf, Builtin.firstCells, Go.sizeOf, typeInfo, hi, hz1, hk, ← hn, hl, hst]
theorem setRow_at {w : World} {g : Nat} {cur x : Array Value} {t : TypeId} {fr : Nat × Nat} (h : w.heap[g]? = some (.cells cur t fr)) : (w.setRow g x).heap[g]? = some (.cells x t fr) := setRow_heap w g cur x t fr h
theorem setRow_far {w : World} {g k : Nat} {x : Array Value} (h : k ≠ g) : (w.setRow g x).heap[k]? = w.heap[k]? := by
  unfold World.setRow
  simp only [Array.getElem?_modify]
  rw [if_neg (fun e => h e.symm)]
theorem setRow_size (w : World) (g : Nat) (x : Array Value) : (w.setRow g x).heap.size = w.heap.size := by
  unfold World.setRow; simp
structure Insd (B : Nat) (W w' : World) (v v' : Value) (R : List Bm) : Prop where
  own : w'.ownsRow B 26 2 v' R.length (flatM R)
  gr : W.grownBy w' v.ownBlock
  at_ : v'.ownBlock = v.ownBlock ∨ ∀ g, v'.ownBlock = some g → W.heap.size ≤ g
theorem flat_cons (m : Bm) (L : List Bm) : flatM (m :: L) = [Value.string m.1, .string m.2] ++ flatM L := rfl
theorem flat_take (L : List Bm) (i : Nat) (h : i ≤ L.length) : (flatM L).take (i * 2) = flatM (L.take i) := by
  have e : flatM L = flatM (L.take i) ++ flatM (L.drop i) := by rw [← flatM_app, List.take_append_drop]
  have hl : (flatM (L.take i)).length = i * 2 := by rw [flatM_len]; simp; omega
  rw [e, ← hl, List.take_left]
theorem flat_drop (L : List Bm) (i : Nat) (h : i ≤ L.length) : (flatM L).drop (i * 2) = flatM (L.drop i) := by
  have e : flatM L = flatM (L.take i) ++ flatM (L.drop i) := by rw [← flatM_app, List.take_append_drop]
  have hl : (flatM (L.take i)).length = i * 2 := by rw [flatM_len]; simp; omega
  rw [e, ← hl, List.drop_left]
theorem ins_done {B g cap : Nat} {W w' : World} {v : Value} {R : List Bm} {m : Bm} (hown : w'.ownsRow B 26 2 (.slice (some ⟨g, 0, none⟩) (R.length + 1) cap) (R.length + 1) (flatM R ++ [.string m.1, .string m.2])) (hg : W.grownBy w' v.ownBlock) (hat : v.ownBlock = some g ∨ g = W.heap.size) :
    Insd B W w' v (.slice (some ⟨g, 0, none⟩) (R.length + 1) cap) (R ++ [m]) := by
  refine ⟨?_, hg, ?_⟩
  · rw [List.length_append, flatM_app]; exact hown
  · rcases hat with h | h
    · exact Or.inl h.symm
    · refine Or.inr (fun k hk => ?_)
      have : g = k := by simpa [Value.ownBlock] using hk
      omega
set_option maxHeartbeats 2000000 in
set_option maxRecDepth 100000 in
theorem ins_end (R : List Bm) (m : Bm) (v : Value) (B vb : Nat) (w : World) (hn : R.length ≤ 1000000) (hB : B ≤ w.heap.size) (ho : w.ownsRow B 26 2 v R.length (flatM R)) (hv : w.heap[vb]? = some (.cells #[.string m.1, .string m.2] 26 (0, 0))) :
    Calls Tryz.prog 43 #[v, .int .i64 R.length, .slice (some ⟨vb, 0, none⟩) 1 1] w fun e w' => ∃ v', e = .returned v' ∧ Insd B w w' v v' (R ++ [m]) := by
  obtain ⟨i0, hi, hz0, hz1, hz2⟩ := info_parts infoMod
  obtain ⟨a, cap, rfl⟩ : ∃ a c, v = .slice a R.length c := by
    obtain ⟨a, c, e, _⟩ := own_ms ho
    exact ⟨a, c, e⟩
  have HCP := hid (show R.length ≤ cap from by
    obtain ⟨a, c, e, h, _⟩ := own_ms ho
    injection e with _ _ e3
    omega)
  have HO := hid ho
  have HV := hid hv
  have HB := hid hB
  clear ho hv hB
  have hcc : (R.length : Int) ≤ (cap : Int) := by have := HCP.out; omega
  by_cases hce : cap = R.length
  · subst hce
    go_enter Tryz.func43, Tryz.ntmps43
    go_wp2_with (at_builtin; refine wpList_append_lies _ rfl _ _ 22 rfl B 26 i0 _ 2 32 Tryz.underlying22 hi hz0 hz1 hz2 rfl (by decide) _ _ _ rfl HO.out ⟨vb, 0, none⟩ 1 1 [.string m.1, .string m.2] rfl rfl (World.news_of_block (cs := #[.string m.1, .string m.2]) HV.out) (by simp [Value.oneCell']) (by omega) (by unfold maxLen; omega) (by omega) HB.out w.heap.size rfl ?_)
    intro g cap2 w2 hown hgrow hat hlt
    have HQ := hid (ins_done (m := m) hown hgrow hat)
    clear hown hgrow hat hlt
    go_wp2_with fail
    go_ret
    exact ⟨_, rfl, HQ.out⟩
  · have hcn : ¬ R.length = cap := fun e => hce e.symm
    cases a with
    | none =>
      have h0 : R = [] ∧ cap = 0 := by
        obtain ⟨_, ⟨h1, h2⟩ | ⟨g, c, cur, h1, _⟩⟩ := HO.out
        · injection h1 with _ _ h3
          exact ⟨List.length_eq_zero_iff.1 h2, h3⟩
        · cases h1
      exact absurd (by rw [h0.1, h0.2]; rfl) hce
    | some a =>
      obtain ⟨ab, ao, asp⟩ := a
      go_enter Tryz.func43, Tryz.ntmps43
      go_wp2_with (at_builtin; refine wpList_append_lies _ rfl _ _ 22 rfl B 26 i0 _ 2 32 Tryz.underlying22 hi hz0 hz1 hz2 rfl (by decide) _ _ _ rfl HO.out ⟨vb, 0, none⟩ 1 1 [.string m.1, .string m.2] rfl rfl (World.news_of_block (cs := #[.string m.1, .string m.2]) HV.out) (by simp [Value.oneCell']) (by omega) (by unfold maxLen; omega) (by omega) HB.out w.heap.size rfl ?_)
      intro g cap2 w2 hown hgrow hat hlt
      have HQ := hid (ins_done (m := m) hown hgrow hat)
      clear hown hgrow hat hlt
      go_wp2_with fail
      go_ret
      exact ⟨_, rfl, HQ.out⟩
end Ve
end Go.Proofs.YtjhlkjgijbobcaaGreatDoor
namespace Go.Proofs.YtjhlkjgijbobcaaGreatDoor
open Go.RowKit
namespace Ve
theorem row_shift {cur : List Value} {R : List Bm} {m : Bm} {i n : Nat} (hn : R.length = n) (hi : i ≤ n) (hl : (n + 1) * 2 ≤ cur.length) (ht : cur.take (n * 2) = flatM R) :
    let c1 := cur.take ((i + 1) * 2) ++ flatM (R.drop i) ++ cur.drop ((i + 1) * 2 + (flatM (R.drop i)).length)
    let c2 := c1.take (i * 2) ++ [Value.string m.1, .string m.2] ++ c1.drop (i * 2 + 2)
    c1.length = cur.length ∧ c2.length = cur.length ∧ c2.take ((n + 1) * 2) = flatM (R.take i ++ m :: R.drop i) := by
  intro c1 c2
  have hdl : (flatM (R.drop i)).length = (n - i) * 2 := by rw [flatM_len, List.length_drop, hn]
  have h1 : c1.length = cur.length := by
    show (cur.take ((i + 1) * 2) ++ flatM (R.drop i) ++ cur.drop ((i + 1) * 2 + (flatM (R.drop i)).length)).length = _
    simp only [List.length_append, List.length_take, List.length_drop, hdl]
    omega
  have h2 : c2.length = cur.length := by
    show (c1.take (i * 2) ++ [Value.string m.1, .string m.2] ++ c1.drop (i * 2 + 2)).length = _
    simp only [List.length_append, List.length_take, List.length_drop, List.length_cons, List.length_nil]
    omega
  refine ⟨h1, h2, ?_⟩
  have ht1 : c1.take (i * 2) = flatM (R.take i) := by
    show (cur.take ((i + 1) * 2) ++ flatM (R.drop i) ++ cur.drop _).take (i * 2) = _
    rw [List.append_assoc, List.take_append_of_le_length (by simp; omega), List.take_take, show min (i * 2) ((i + 1) * 2) = i * 2 by omega, ← flat_take R i (by omega), ← ht, List.take_take, show min (i * 2) (n * 2) = i * 2 by omega]
  have hd1 : c1.drop (i * 2 + 2) = flatM (R.drop i) ++ cur.drop ((i + 1) * 2 + (flatM (R.drop i)).length) := by
    show (cur.take ((i + 1) * 2) ++ flatM (R.drop i) ++ cur.drop _).drop (i * 2 + 2) = _
    have e : (cur.take ((i + 1) * 2)).length = i * 2 + 2 := by simp; omega
    rw [List.append_assoc, ← e, List.drop_left]
  show (c1.take (i * 2) ++ [Value.string m.1, .string m.2] ++ c1.drop (i * 2 + 2)).take ((n + 1) * 2) = _
  rw [ht1, hd1, flatM_app, flat_cons]
  have hasc : flatM (R.take i) ++ [Value.string m.1, .string m.2] ++ (flatM (R.drop i) ++ cur.drop ((i + 1) * 2 + (flatM (R.drop i)).length)) = (flatM (R.take i) ++ ([Value.string m.1, .string m.2] ++ flatM (R.drop i))) ++ cur.drop ((i + 1) * 2 + (flatM (R.drop i)).length) := by simp
  rw [hasc]
  have hlen : (flatM (R.take i) ++ ([Value.string m.1, .string m.2] ++ flatM (R.drop i))).length = (n + 1) * 2 := by
    simp only [List.length_append, hdl, flatM_len, List.length_take, List.length_cons, List.length_nil]
    omega
  rw [← hlen, List.take_left]
theorem own_of_row {W : World} {B g n cap : Nat} {cur : Array Value} {R : List Bm} (hg : W.heap[g]? = some (.cells cur 26 (0, 0))) (hB : B ≤ g) (hn : R.length = n) (hc : n ≤ cap) (hm : cap ≤ maxLen) (hs : cur.size = cap * 2) (ht : cur.toList.take (n * 2) = flatM R) :
    W.ownsRow B 26 2 (.slice (some ⟨g, 0, none⟩) n cap) n (flatM R) := ⟨by rw [flatM_len, hn], Or.inr ⟨g, cap, cur, rfl, hB, hg, hc, hm, hs, ht⟩⟩
set_option maxHeartbeats 4000000 in
set_option maxRecDepth 100000 in
theorem ins_room (R : List Bm) (m : Bm) (B g cap vb i : Nat) (cur : Array Value) (w : World) (hn : R.length ≤ 1000000) (hB : B ≤ g) (hg : w.heap[g]? = some (.cells cur 26 (0, 0))) (hcm : cap ≤ maxLen) (hcs : cur.size = cap * 2) (hct : cur.toList.take (R.length * 2) = flatM R)
    (hv : w.heap[vb]? = some (.cells #[.string m.1, .string m.2] 26 (0, 0))) (hvg : vb ≠ g) (hi : i < R.length) (hroom : R.length + 1 ≤ cap) :
    Calls Tryz.prog 43 #[.slice (some ⟨g, 0, none⟩) R.length cap, .int .i64 i, .slice (some ⟨vb, 0, none⟩) 1 1] w fun e w' => ∃ v', e = .returned v' ∧ Insd B w w' (.slice (some ⟨g, 0, none⟩) R.length cap) v' (R.take i ++ m :: R.drop i) := by
  have HRS := hid (row_shift (cur := cur.toList) (R := R) (m := m) (i := i) (n := R.length) rfl (by omega) (by simp; omega) hct)
  have hz2 : ¬ ((i : Int) = (R.length : Int)) := by omega
  have hz3 : ¬ ((cap : Int) < (R.length : Int) + 1) := by omega
  have hov : ∀ lb cb, (callFunc 69 #[.slice (some ⟨vb, 0, none⟩) 1 1, .slice (some ⟨g, (i + 1) * 2, none⟩) lb cb]).run Tryz.prog w = .ok (.value (.bool false)) w := fun lb cb => by
    rw [run_callFunc_extern Tryz.func69 (by kernel_rfl) (by kernel_rfl) (by kernel_rfl) (e := Extern.SlicesOverlaps.overlaps #[22, 22] #[4]) (by kernel_rfl),
      Lib.run_overlaps_apart w 22 4 26 Tryz.underlying22 2 Tryz.sizeOf26 ⟨vb, 0, none⟩ ⟨g, (i + 1) * 2, none⟩ 1 1 lb cb hvg 26 26 2 (cap * 2) (by simp [World.shape?, hv]) (by simp [World.shape?, hg, hcs]) (by omega) (Lib.frozen_of_heap hv 0) (Lib.frozen_of_heap hv 2)]
    rfl
  have hdl : (flatM (R.drop i)).length = (R.length - i) * 2 := by rw [flatM_len, List.length_drop]
  have hcp1 : ∀ ty dl dc sl sc, Nat.min sl dl = R.length - i → (Builtin.copy_ #[22, 22] ty #[.slice (some ⟨g, (i + 1) * 2, none⟩) dl dc, .slice (some ⟨g, i * 2, none⟩) sl sc]).run Tryz.prog w.drew = .ok (goInt ((R.length - i : Nat) : Int)) (w.drew.setRow g (cur.toList.take ((i + 1) * 2) ++ flatM (R.drop i) ++ cur.toList.drop ((i + 1) * 2 + (flatM (R.drop i)).length)).toArray) := fun ty dl dc sl sc hmin =>
    copy_row2 w.drew ty g ((i + 1) * 2) dl dc ⟨g, i * 2, none⟩ sl sc (R.length - i) cur 26 (flatM (R.drop i)) hmin hg (by rw [hdl]) (fun j u hj => by
      rw [Addr.add_lit]
      have h1 : w.drew.cell? ⟨g, i * 2 + j, none⟩ = cur[i * 2 + j]? := Lib.cell_of_heap (w := w.drew) hg _
      rw [h1]
      have hjl : j < (R.length - i) * 2 := by rw [← hdl]; exact (List.getElem?_eq_some_iff.1 hj).1
      rw [← flat_drop R i (by omega), List.getElem?_drop, ← hct, List.getElem?_take, if_pos (by omega)] at hj
      simpa using hj) (by rw [hdl]; omega) (flat_one _)
  obtain ⟨C1, hC1⟩ : ∃ C1, C1 = cur.toList.take ((i + 1) * 2) ++ flatM (R.drop i) ++ cur.toList.drop ((i + 1) * 2 + (flatM (R.drop i)).length) := ⟨_, rfl⟩
  rw [← hC1] at hcp1 HRS
  have hg1 : (w.drew.setRow g C1.toArray).heap[g]? = some (.cells C1.toArray 26 (0, 0)) := setRow_at (w := w.drew) hg
  have hv1 : (w.drew.setRow g C1.toArray).heap[vb]? = some (.cells #[.string m.1, .string m.2] 26 (0, 0)) := by rw [setRow_far hvg]; exact hv
  obtain ⟨C2, hC2⟩ : ∃ C2 : Array Value, C2 = (C1.take (i * 2) ++ [Value.string m.1, .string m.2] ++ C1.drop (i * 2 + 2)).toArray := ⟨_, rfl⟩
  have hcp2 : ∀ (W : World), W.heap = (w.drew.setRow g C1.toArray).heap → ∀ ty dc, (Builtin.copy_ #[22, 22] ty #[.slice (some ⟨g, i * 2, none⟩) (R.length + 1 - i) dc, .slice (some ⟨vb, 0, none⟩) 1 1]).run Tryz.prog W = .ok (goInt 1) (W.setRow g C2) := fun W hW ty dc => by
    rw [hC2]
    have := copy_row2 W ty g (i * 2) (R.length + 1 - i) dc ⟨vb, 0, none⟩ 1 1 1 C1.toArray 26 [Value.string m.1, .string m.2] (by simp only [Nat.min_def]; split <;> omega) (by rw [hW]; exact hg1) rfl (World.news_of_block (cs := #[.string m.1, .string m.2]) (by rw [hW]; exact hv1)) (by have := HRS.out.1; simp at this ⊢; omega) (by simp [Value.oneCell'])
    simpa using this
  have hw1 : IntKind.i64.wrap ((i : Int) + 1) = (i : Int) + 1 := by rw [IntKind.wrap_i64]; omega
  have hb1 : (0 : Int) ≤ (i : Int) + 1 := by omega
  have hin : i ≤ R.length := by omega
  have htn : ((i : Int) + 1).toNat = i + 1 := by omega
  have hb2 : ¬ (cap = i + 1) := by omega
  have hb3 : (i : Int) ≤ (R.length : Int) + 1 := by omega
  have hb4 : ¬ (cap = i) := by omega
  have hb5 : (i : Int) + 1 ≤ (R.length : Int) + 1 := by omega
  have hb6 : (R.length : Int) + 1 ≤ (cap : Int) := by omega
  have HFI := hid (show Insd B w ((w.drew.setRow g C1.toArray).setRow g C2) (.slice (some ⟨g, 0, none⟩) R.length cap) (.slice (some ⟨g, 0, none⟩) (R.length + 1) cap) (R.take i ++ m :: R.drop i) from by
    have hl : (R.take i ++ m :: R.drop i).length = R.length + 1 := by simp; omega
    rw [hC2]
    refine ⟨?_, ⟨rfl, rfl, rfl, by rw [setRow_size, setRow_size]; exact Nat.le_refl _, fun k hk hne => ?_⟩, Or.inl rfl⟩
    · rw [hl]
      exact own_of_row (setRow_at hg1) hB hl (by omega) hcm (by have := HRS.out.2.1; simp at this ⊢; omega) (by have := HRS.out.2.2; simpa using this)
    · have : k ≠ g := fun e => hne (by rw [e]; rfl)
      rw [setRow_far this, setRow_far this]; rfl)
  have HCP1 := hid (hcp1 3 (R.length - i) (cap - (i + 1)) (R.length + 1 - i) (cap - i) (by simp only [Nat.min_def]; split <;> omega))
  clear hC1 hC2 hdl hct hcs hg hv hg1 hv1 HRS hcp1
  go_enter Tryz.func43, Tryz.ntmps43
  go_wp2_with (simp only [hov])
  go_region_law (refine step_copy_runI rfl _ _ 22 22 rfl (.slice (some ⟨g, (i + 1) * 2, none⟩) (R.length - i) (cap - (i + 1))) (.slice (some ⟨g, i * 2, none⟩) (R.length + 1 - i) (cap - i)) (by simp [Act.eval, Act.put]) (by simp [Act.eval, Act.put]) HCP1.out ?_)
  go_wp2_with (at_builtin; refine wpList_copy_runI _ rfl _ _ 22 22 rfl _ _ rfl rfl (hcp2 _ rfl _ _) ?_)
  go_ret
  exact ⟨_, rfl, HFI.out⟩
end Ve
end Go.Proofs.YtjhlkjgijbobcaaGreatDoor
