/-
  What the document's answer says of a path in two (SplitPath), and what Split of package mod says.
-/
import Derived.Test.YtmgpapghdbopiaaGreatDoorRefK
namespace Go.Proofs.YtmgpapghdbopiaaGreatDoor
open Go.RowKit
namespace Ve

/-- A path in two: what is ahead of the suffix, its number. -/
def splitH (l : List UInt8) : List UInt8 := if pathErr l = 0 then pathH l else []
def splitN (l : List UInt8) : Int := if pathErr l = 0 then pathN l else 0
theorem suf_fits {l : List UInt8} (h : pathErr l = 0) (hs : sufE l = true) : sufOk (lastOf l) = true := by
  cases ho : sufOk (lastOf l)
  · exfalso
    unfold pathErr at h
    cases hb : badE l
    · rw [hb] at h
      cases hl : longE l
      · rw [hl, hs, ho] at h; cases h
      · rw [hl] at h; cases h
    · rw [hb] at h; cases h
  · rfl
theorem split_none {l : List UInt8} (h : pathErr l = 0) (he : elems l = [l]) : splitH l = l ∧ splitN l = 0 := by
  have hu : sufE l = false := by unfold sufE; rw [he]; rfl
  unfold splitH splitN pathH pathN
  rw [if_pos h, if_pos h, hu]
  exact ⟨rfl, rfl⟩
theorem split_pos {l : List UInt8} {k : Nat} (h : pathErr l = 0) (he : elems l = elems (l.take k) ++ [l.drop (k + 1)]) (hn : 0 < sufV (l.drop (k + 1))) : splitH l = l.take k ∧ splitN l = sufV (l.drop (k + 1)) := by
  obtain ⟨h1, h2, h3⟩ := slash_last he
  rw [← h2] at hn ⊢
  have hk : likeB (lastOf l) = true := by
    cases e : likeB (lastOf l)
    · unfold sufV at hn; rw [e] at hn; simp at hn
    · rfl
  have hu : sufE l = true := by unfold sufE; rw [hk, decide_eq_true h1]; rfl
  have ho := suf_fits h hu
  have hv : sufV (lastOf l) = (num (restOf (lastOf l))).1 := by unfold sufV; rw [hk, ho]; rfl
  unfold splitH splitN pathH pathN
  rw [if_pos h, if_pos h, hu, hv]
  exact ⟨h3, rfl⟩
theorem split_zero {l : List UInt8} {k : Nat} (h : pathErr l = 0) (he : elems l = elems (l.take k) ++ [l.drop (k + 1)]) (hn : ¬ 0 < sufV (l.drop (k + 1))) : splitH l = l ∧ splitN l = 0 := by
  obtain ⟨h1, h2, h3⟩ := slash_last he
  rw [← h2] at hn
  have hu : sufE l = false := by
    cases e : sufE l
    · rfl
    · exfalso
      have ho := suf_fits h e
      have hk : likeB (lastOf l) = true := by
        unfold sufE at e
        simp only [Bool.and_eq_true] at e
        exact e.2
      have hv : sufV (lastOf l) = (num (restOf (lastOf l))).1 := by unfold sufV; rw [hk, ho]; rfl
      have := suf_pos ho
      omega
  unfold splitH splitN pathH pathN
  rw [if_pos h, if_pos h, hu]
  exact ⟨rfl, rfl⟩
theorem slash_is {c : UInt8} : ((c.toNat : Int) == 47) = true ↔ c = 47 := by
  rw [beq_iff_eq]
  have : (47 : UInt8).toNat = 47 := rfl
  constructor
  · intro h; exact UInt8.toNat_inj.1 (by omega)
  · intro h; rw [h]; rfl

set_option maxRecDepth 100000 in
set_option maxHeartbeats 4000000 in
theorem splitPath_any (s : ByteArray) (w : World) (hs : s.size < 4294967281) :
    Calls Tryz.prog 23 #[.string s] w fun e w' => ∃ H : ByteArray, e = .returned (.tuple #[.string H, .int .i64 (splitN s.data.toList)]) ∧ H.data.toList = splitH s.data.toList ∧ Below w.heap.size w w' := by
  have HP := hid (pathError_any s w hs)
  by_cases h0 : pathErr s.data.toList = 0
  · have H0 := hid h0
    rw [h0] at HP
    clear h0
    go_enter Tryz.func23, Tryz.ntmps23
    go_wp2_with fail
    refine HP.out.mono ?_
    rintro e w1 ⟨rfl, hb⟩
    have HB := hid hb
    clear hb
    go_wp2_with fail
    go_loop [4] (fun i => ∃ j : Nat, j ≤ s.size ∧ i = .int .i64 ((j : Int) - 1) ∧ Hid (∀ t (ht : t < s.size), j ≤ t → s[t] ≠ 47)) (fun i => (intOf i + 1).toNat)
    case atStart => exact ⟨s.size, Nat.le_refl _, rfl, hid (fun t ht h => absurd ht (by omega))⟩
    case round =>
      obtain ⟨j, hj, rfl, HN⟩ := hrel
      by_cases hz : j = 0
      · subst hz
        have HR := hid (split_none H0.out (slash_none (fun t ht => HN.out t (by simpa using ht) (Nat.zero_le _))))
        go_wp2_with fail
        go_ret2
        exact ⟨s, by rw [HR.out.2]; rfl, HR.out.1.symm, HB.out⟩
      · obtain ⟨k, rfl⟩ : ∃ k, j = k + 1 := ⟨j - 1, by omega⟩
        have hki : ((k + 1 : Nat) : Int) - 1 = (k : Int) := by omega
        rw [hki]
        have hlt : k < s.size := by omega
        have hkb := s[k].toNat_lt
        have h0k : (0 : Int) ≤ (k : Int) := by omega
        cases hc : ((s[k].toNat : Int) == 47)
        · have hcn : ((s[k].toNat : Int) != 47) = true := by rw [bne, hc]; rfl
          have hcp : ¬ (s[k].toNat : Int) = 47 := by simpa using hc
          have HN2 := hid (show ∀ t (ht : t < s.size), k ≤ t → s[t] ≠ 47 from fun t ht h => by
            by_cases e : t = k
            · subst e; intro h2; rw [slash_is.2 h2] at hc; cases hc
            · exact HN.out t ht (by omega))
          go_wp2_with fail
          go_round
          case rel => exact ⟨k, by omega, by go_num, HN2⟩
          case measure => (simp [intOf]; try omega)
        · have hcn : ((s[k].toNat : Int) != 47) = false := by rw [bne, hc]; rfl
          have hcp : (s[k].toNat : Int) = 47 := by simpa using hc
          have HSP := hid (slash_split (l := s.data.toList) (k := k) (by simpa using hlt) (slash_is.1 hc) (fun t ht h => HN.out t (by simpa using ht) (by omega)))
          have HT := hid (show (s.extract (k + 1) s.size).data.toList = s.data.toList.drop (k + 1) from ext_drop s (k + 1))
          have hTs : (s.extract (k + 1) s.size).size ≤ maxLen := by rw [ByteArray.size_extract]; unfold maxLen; omega
          have HSU := hid (suffixOf_any (s.extract (k + 1) s.size) w1 hTs)
          rw [HT.out] at HSU
          have s1 : (0 : Int) ≤ (k : Int) + 1 := by omega
          have s2 : (k : Int) + 1 ≤ (s.size : Int) := by omega
          have s3 : (k : Int) ≤ (s.size : Int) := by omega
          have HK := hid (show (s.extract 0 k).data.toList = s.data.toList.take k by rw [extract_list]; simp)
          by_cases hn : 0 < sufV (s.data.toList.drop (k + 1))
          · have HR := hid (split_pos H0.out HSP.out hn)
            generalize sufV (s.data.toList.drop (k + 1)) = n at *
            go_wp2_with fail
            refine HSU.out.mono ?_
            rintro e w' ⟨rfl, rfl⟩
            go_wp2_with fail
            go_ret2
            exact ⟨s.extract 0 k, by rw [HR.out.2]; rfl, HK.out.trans HR.out.1.symm, HB.out⟩
          · have HR := hid (split_zero H0.out HSP.out hn)
            generalize sufV (s.data.toList.drop (k + 1)) = n at *
            go_wp2_with fail
            refine HSU.out.mono ?_
            rintro e w' ⟨rfl, rfl⟩
            go_wp2_with fail
            go_ret2
            exact ⟨s, by rw [HR.out.2]; rfl, HR.out.1.symm, HB.out⟩
  · have HR := hid (show splitH s.data.toList = [] ∧ splitN s.data.toList = 0 from ⟨by unfold splitH; rw [if_neg h0], by unfold splitN; rw [if_neg h0]⟩)
    rw [HR.out.2]
    have hpos : (0 : Int) < (pathErr s.data.toList : Int) := by omega
    generalize (pathErr s.data.toList : Int) = c at *
    clear h0
    go_enter Tryz.func23, Tryz.ntmps23
    go_wp2_with fail
    refine HP.out.mono ?_
    rintro e w1 ⟨rfl, hb⟩
    have HB := hid hb
    clear hb
    go_wp2_with fail
    go_ret2
    exact ⟨⟨#[]⟩, rfl, HR.out.1.symm, HB.out⟩

set_option maxHeartbeats 1000000 in
theorem msplit_any (s : ByteArray) (A : Nat → Addr) (m : Int) (w : World) (hs : s.size < 4294967281) (S : Te w A m) :
    Calls Tryz.prog 22 #[.string s] w fun e w' => ∃ H : ByteArray, e = .returned (.tuple #[.string H, .int .i64 (splitN s.data.toList)]) ∧ H.data.toList = splitH s.data.toList ∧ Below w.heap.size w w' := by
  by_cases h0 : pathErr s.data.toList = 0
  · have e1 : splitH s.data.toList = pathH s.data.toList := by unfold splitH; rw [if_pos h0]
    have e2 : splitN s.data.toList = pathN s.data.toList := by unfold splitN; rw [if_pos h0]
    rw [e1, e2]
    exact msplit_ok s A m w hs S h0
  · have HR := hid (show splitH s.data.toList = [] ∧ splitN s.data.toList = 0 from ⟨by unfold splitH; rw [if_neg h0], by unfold splitN; rw [if_neg h0]⟩)
    rw [HR.out.2]
    have HP := hid (readPath_any s A m w hs S)
    have H0 := hid h0
    clear S h0
    go_enter Tryz.func22, Tryz.ntmps22
    go_wp2_with fail
    refine HP.out.mono ?_
    rintro e w1 ⟨⟨H, n, ev, rfl, hv, _, hbad⟩, hb⟩
    obtain ⟨rfl, rfl⟩ := hbad H0.out
    obtain ⟨a9, ha9⟩ := errA_ne A H0.out
    rw [ha9] at hv
    subst hv
    have HB := hid hb
    clear hb hbad ha9
    go_wp2_with fail
    go_ret2
    exact ⟨⟨#[]⟩, rfl, HR.out.1.symm, HB.out⟩
end Ve
end Go.Proofs.YtmgpapghdbopiaaGreatDoor
