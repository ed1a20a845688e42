/-
  What Read, Ahead and Split of package mod answer; nothing old in memory turns.
-/
import Derived.Test.YtmgpapghdbopiaaGreatDoorModD
import Derived.Test.YtmgpapghdbopiaaGreatDoorLessAny
namespace Go.Proofs.YtmgpapghdbopiaaGreatDoor
open Go.RowKit
namespace Ve

theorem str_refl (a : ByteArray) : (a.toList == a.toList) = true := by simp
theorem cut64 (s : ByteArray) (m : Int) (w : World) (hs : s.size < 4294967281) (hm : w.cell? ⟨11, 0, none⟩ = some (.int .i64 m)) :
    Calls Tryz.prog 38 #[.string s, .string ⟨#[64]⟩] w fun e w' => ∃ (C T : ByteArray) (b : Bool), e = .returned (.tuple #[.string C, .string T, .bool b]) ∧ C.data.toList = (one 64 s.data.toList).1 ∧ T.data.toList = (one 64 s.data.toList).2.1 ∧ Below w.heap.size w w' :=
  (Tryz.strings_Cut s ⟨#[64]⟩ m w hs hm).mono fun e w' ⟨h1, n, h2⟩ => by
    have e0 : (⟨#[64]⟩ : ByteArray).data.toList = [64] := rfl
    rw [e0, cut_one] at h1
    exact ⟨⟨(one 64 s.data.toList).1.toArray⟩, ⟨(one 64 s.data.toList).2.1.toArray⟩, _, h1, by simp, by simp, by rw [h2]; exact below_drawn w n⟩

/-- Read's error, by its number. -/
def readErr (l : List UInt8) : Nat := if l.count 64 = 1 then modErr (one 64 l).1 (one 64 l).2.1 else 1
/-- What Read answers. -/
def ReadP (A : Nat → Addr) (l : List UInt8) (w w' : World) (e : Ending) : Prop :=
  (∃ (P V : ByteArray) (v : Value), e = .returned (.tuple #[.agg #[.string P, .string V], v]) ∧ v = errA A (readErr l) ∧ (readErr l = 0 → P.data.toList = (one 64 l).1 ∧ V.data.toList = (one 64 l).2.1) ∧ (readErr l ≠ 0 → P = ⟨#[]⟩ ∧ V = ⟨#[]⟩)) ∧ Below w.heap.size w w'

theorem res2f {w w3 : World} {a b : Value} {T : TypeId} (hb : Below (w.heap.size + 1) (w.alloc (.cells #[a, b] T)) w3) : ∀ o, w3.frozen? ⟨w.heap.size, o, none⟩ = false := by
  intro o; rw [hb.frozen (by simp)]; simp

set_option maxHeartbeats 1000000 in
theorem mread_count (s : ByteArray) (A : Nat → Addr) (m : Int) (w : World) (S : Te w A m) (h0 : s.data.toList.count 64 ≠ 1) :
    Calls Tryz.prog 32 #[.string s] w fun e w' => e = .returned (.tuple #[.agg #[.string ⟨#[]⟩, .string ⟨#[]⟩], .iface 201 (.pointer (some (A 0)))]) ∧ Below w.heap.size w w' := by
  have HB0 := hid ((Below.refl w.heap.size w).alloc (Nat.le_refl _) (.cells #[.string ⟨#[]⟩, .string ⟨#[]⟩] 45))
  have g := (S.below HB0.out).sen.g0
  obtain ⟨⟨r0, r1⟩, rz⟩ := res2 (Below.refl _ (w.alloc (.cells #[.string ⟨#[]⟩, .string ⟨#[]⟩] 45)))
  have rf := res2f (Below.refl _ (w.alloc (.cells #[.string ⟨#[]⟩, .string ⟨#[]⟩] 45)))
  have hne1 : ¬ w.heap.size = 0 := by have := lt_of_cell S.sen.g0; simp at this; omega
  have hne2 : ¬ 0 = w.heap.size := fun h => hne1 h.symm
  have HC := hid (Tryz.strings_Count_one s 64 (w.alloc (.cells #[.string ⟨#[]⟩, .string ⟨#[]⟩] 45)))
  have hz : (((Lib.countByte s.data.toList 64 : Nat) : Int) == 1) = false := beq_eq_false_iff_ne.2 (by unfold Lib.countByte; omega)
  generalize ((Lib.countByte s.data.toList 64 : Nat) : Int) = c at *
  clear S h0
  go_enter Tryz.func32, Tryz.ntmps32
  go_wp2_with fail
  refine HC.out.mono ?_
  rintro e w1 ⟨rfl, hw⟩
  rw [← hw] at g r0 r1 rz rf HB0
  clear hw
  go_wp2_with fail
  go_region
  all_goals (try go_wp2)
  all_goals
    refine bodyPost_ret (v := .tuple #[.agg #[.string ⟨#[]⟩, .string ⟨#[]⟩], .iface 201 (.pointer (some (A 0)))]) (by simp [results, Tryz.results32, go_sem, r0, r1]) rfl ⟨rfl, ?_⟩
    exact ((HB0.out.setCell (Nat.le_refl _) _).setCell (Nat.le_refl _) _).drew

set_option maxHeartbeats 1000000 in
theorem mread_bad (s : ByteArray) (A : Nat → Addr) (m : Int) (w : World) (hs : s.size < 999999) (S : Te w A m) (h0 : s.data.toList.count 64 = 1) (he : modErr (one 64 s.data.toList).1 (one 64 s.data.toList).2.1 ≠ 0) :
    Calls Tryz.prog 32 #[.string s] w fun e w' => e = .returned (.tuple #[.agg #[.string ⟨#[]⟩, .string ⟨#[]⟩], errA A (modErr (one 64 s.data.toList).1 (one 64 s.data.toList).2.1)]) ∧ Below w.heap.size w w' := by
  have HB0 := hid ((Below.refl w.heap.size w).alloc (Nat.le_refl _) (.cells #[.string ⟨#[]⟩, .string ⟨#[]⟩] 45))
  have HS0 := hid (S.below HB0.out)
  have HC := hid (Tryz.strings_Count_one s 64 (w.alloc (.cells #[.string ⟨#[]⟩, .string ⟨#[]⟩] 45)))
  rw [show Lib.countByte s.data.toList 64 = 1 from h0] at HC
  have HSZ := hid hs
  have HE := hid he
  clear S h0 he
  go_enter Tryz.func32, Tryz.ntmps32
  go_wp2_with fail
  refine HC.out.mono ?_
  rintro e w' ⟨rfl, rfl⟩
  go_wp2_with fail
  refine (cut64 s m _ (by have := HSZ.out; omega) HS0.out.ml).mono ?_
  rintro e w1 ⟨P, V, bq, rfl, hP, hV, hb1⟩
  have hPs : P.size < 999999 := by
    have h1 := size_of hP
    have h2 := (one_le 64 s.data.toList).1
    have := HSZ.out
    simp at h2; omega
  have hVs : V.size < 999999 := by
    have h1 := size_of hV
    have h2 := (one_le 64 s.data.toList).2
    have := HSZ.out
    simp at h2; omega
  have HP := hid hP
  have HV := hid hV
  have HBX := hid (show Below (w.heap.size + 1) (w.alloc (.cells #[.string ⟨#[]⟩, .string ⟨#[]⟩] 45)) w1 from hb1.mono (by simp))
  have HS1 := hid (HS0.out.below hb1)
  have HBM := hid ((Below.refl w1.heap.size w1).alloc (Nat.le_refl _) (.cells #[.string P, .string V] 45))
  have HS2 := hid (HS1.out.below HBM.out)
  clear hP hV hb1
  go_wp2_with fail
  refine (mcheck_any P V A m _ (by omega) (by omega) HS2.out).mono ?_
  rintro e w2 ⟨rfl, hb2⟩
  rw [HP.out, HV.out]
  obtain ⟨a9, ha9⟩ := errA_ne A HE.out
  rw [ha9]
  have HA := hid ha9
  clear ha9
  have HBY := hid (HBX.out.trans ((HBM.out.trans (hb2.mono (by simp))).mono (by have := HBX.out.size; simpa using this)))
  obtain ⟨⟨r0, r1⟩, rz⟩ := res2 HBY.out
  have rf := res2f HBY.out
  have HBF := hid (HB0.out.trans (HBY.out.mono (by omega)))
  clear hb2
  go_wp2_with fail
  refine bodyPost_ret (v := .tuple #[.agg #[.string ⟨#[]⟩, .string ⟨#[]⟩], .iface 201 (.pointer (some a9))]) (by simp [results, Tryz.results32, go_sem, r0, r1]) rfl ⟨by rw [HA.out], ?_⟩
  exact (HBF.out.setCell (Nat.le_refl _) _).setCell (Nat.le_refl _) _

set_option maxHeartbeats 1000000 in
theorem mread_ok (s : ByteArray) (A : Nat → Addr) (m : Int) (w : World) (hs : s.size < 999999) (S : Te w A m) (h0 : s.data.toList.count 64 = 1) (he : modErr (one 64 s.data.toList).1 (one 64 s.data.toList).2.1 = 0) :
    Calls Tryz.prog 32 #[.string s] w fun e w' => ∃ P V : ByteArray, e = .returned (.tuple #[.agg #[.string P, .string V], .nilIface]) ∧ P.data.toList = (one 64 s.data.toList).1 ∧ V.data.toList = (one 64 s.data.toList).2.1 ∧ Below w.heap.size w w' := by
  have HB0 := hid ((Below.refl w.heap.size w).alloc (Nat.le_refl _) (.cells #[.string ⟨#[]⟩, .string ⟨#[]⟩] 45))
  have HS0 := hid (S.below HB0.out)
  have HC := hid (Tryz.strings_Count_one s 64 (w.alloc (.cells #[.string ⟨#[]⟩, .string ⟨#[]⟩] 45)))
  rw [show Lib.countByte s.data.toList 64 = 1 from h0] at HC
  have HSZ := hid hs
  have HE := hid he
  clear S h0 he
  go_enter Tryz.func32, Tryz.ntmps32
  go_wp2_with fail
  refine HC.out.mono ?_
  rintro e w' ⟨rfl, rfl⟩
  go_wp2_with fail
  refine (cut64 s m _ (by have := HSZ.out; omega) HS0.out.ml).mono ?_
  rintro e w1 ⟨P, V, bq, rfl, hP, hV, hb1⟩
  have hPs : P.size < 999999 := by
    have h1 := size_of hP
    have h2 := (one_le 64 s.data.toList).1
    have := HSZ.out
    simp at h2; omega
  have hVs : V.size < 999999 := by
    have h1 := size_of hV
    have h2 := (one_le 64 s.data.toList).2
    have := HSZ.out
    simp at h2; omega
  have HP := hid hP
  have HV := hid hV
  have HBX := hid (show Below (w.heap.size + 1) (w.alloc (.cells #[.string ⟨#[]⟩, .string ⟨#[]⟩] 45)) w1 from hb1.mono (by simp))
  have HS1 := hid (HS0.out.below hb1)
  have HBM := hid ((Below.refl w1.heap.size w1).alloc (Nat.le_refl _) (.cells #[.string P, .string V] 45))
  have HS2 := hid (HS1.out.below HBM.out)
  clear hP hV hb1
  go_wp2_with fail
  refine (mcheck_any P V A m _ (by omega) (by omega) HS2.out).mono ?_
  rintro e w2 ⟨rfl, hb2⟩
  rw [HP.out, HV.out, HE.out, errA0]
  obtain ⟨⟨q0, q1⟩, qz⟩ := res2 (hb2.mono (by simp))
  have HBY := hid (HBX.out.trans ((HBM.out.trans (hb2.mono (by simp))).mono (by have := HBX.out.size; simpa using this)))
  obtain ⟨⟨r0, r1⟩, rz⟩ := res2 HBY.out
  have rf := res2f HBY.out
  have HBF := hid (HB0.out.trans (HBY.out.mono (by omega)))
  have hne1 : ¬ w.heap.size = w1.heap.size := by have := HBX.out.size; simp at this; omega
  have hne2 : ¬ w1.heap.size = w.heap.size := fun h => hne1 h.symm
  clear hb2
  go_wp2_with fail
  refine bodyPost_ret (v := .tuple #[.agg #[.string P, .string V], .nilIface]) (by simp [results, Tryz.results32, go_sem, r0, r1]) rfl ⟨P, V, rfl, HP.out, HV.out, ?_⟩
  exact (HBF.out.setCell (Nat.le_refl _) _).setCell (Nat.le_refl _) _

theorem mread_any (s : ByteArray) (A : Nat → Addr) (m : Int) (w : World) (hs : s.size < 999999) (S : Te w A m) : Calls Tryz.prog 32 #[.string s] w fun e w' => ReadP A s.data.toList w w' e := by
  by_cases h0 : s.data.toList.count 64 = 1
  · have hr : readErr s.data.toList = modErr (one 64 s.data.toList).1 (one 64 s.data.toList).2.1 := by unfold readErr; rw [if_pos h0]
    by_cases he : modErr (one 64 s.data.toList).1 (one 64 s.data.toList).2.1 = 0
    · exact (mread_ok s A m w hs S h0 he).mono fun e w' ⟨P, V, h1, h2, h3, h4⟩ => ⟨⟨P, V, _, h1, by rw [hr, he]; rfl, fun _ => ⟨h2, h3⟩, fun h => absurd (hr.trans he) h⟩, h4⟩
    · exact (mread_bad s A m w hs S h0 he).mono fun e w' ⟨h1, h2⟩ => ⟨⟨_, _, _, h1, by rw [hr], fun h => absurd (hr.symm.trans h) he, fun _ => ⟨rfl, rfl⟩⟩, h2⟩
  · have hr : readErr s.data.toList = 1 := by unfold readErr; rw [if_neg h0]
    exact (mread_count s A m w S h0).mono fun e w' ⟨h1, h2⟩ => ⟨⟨_, _, _, h1, by rw [hr]; rfl, (fun h => by rw [hr] at h; cases h), fun _ => ⟨rfl, rfl⟩⟩, h2⟩

/-- Ahead: by the path's bytes, then by the version. -/
def aheadB (p v q u : List UInt8) : Bool := if p = q then lessB v u else decide (Lib.compareBytes p q < 0)
set_option maxHeartbeats 1000000 in
theorem ahead_any (p v q u : ByteArray) (A : Nat → Addr) (m : Int) (w : World) (hv : v.size < 999999) (hu : u.size < 999999) (S : Te w A m) :
    Calls Tryz.prog 31 #[.agg #[.string p, .string v], .agg #[.string q, .string u]] w fun e w' => e = .returned (.bool (aheadB p.data.toList v.data.toList q.data.toList u.data.toList)) ∧ Below w.heap.size w w' := by
  have HO := hid (show aheadB p.data.toList v.data.toList q.data.toList u.data.toList = if p.data.toList = q.data.toList then lessB v.data.toList u.data.toList else decide (Lib.compareBytes p.data.toList q.data.toList < 0) from rfl)
  have HB0 := hid (((Below.refl w.heap.size w).alloc (Nat.le_refl _) (.cells #[.string p, .string v] 45)).alloc (by simp) (.cells #[.string q, .string u] 45))
  by_cases h : p = q
  · subst h
    rw [if_pos rfl] at HO
    have he := str_refl p
    have HL := hid (fun W (SW : Te W A m) => less_any v u (A 0) (A 1) m W hv hu SW.vs)
    have HS := hid S
    clear S
    go_enter Tryz.func31, Tryz.ntmps31
    go_wp2_with fail
    refine (HL.out _ (HS.out.below HB0.out)).mono ?_
    rintro e w1 ⟨rfl, hb⟩
    have HB := hid (HB0.out.trans (hb.mono HB0.out.size))
    clear hb
    go_wp2_with fail
    go_ret
    exact ⟨ret_bool HO.out.symm, HB.out⟩
  · rw [if_neg (fun e => h (str_ext e))] at HO
    have he := str_ne h
    have HC := hid (show Op.bytesLess p.toList q.toList = decide (Lib.compareBytes p.data.toList q.data.toList < 0) by rw [cb_less, ByteArray.toList_eq, ByteArray.toList_eq])
    clear S h
    go_enter Tryz.func31, Tryz.ntmps31
    go_wp2_with fail
    go_ret
    exact ⟨ret_bool (by rw [HO.out, ← HC.out]), HB0.out⟩

set_option maxHeartbeats 1000000 in
theorem msplit_ok (s : ByteArray) (A : Nat → Addr) (m : Int) (w : World) (hs : s.size < 4294967281) (S : Te w A m) (h0 : pathErr s.data.toList = 0) :
    Calls Tryz.prog 22 #[.string s] w fun e w' => ∃ H : ByteArray, e = .returned (.tuple #[.string H, .int .i64 (pathN s.data.toList)]) ∧ H.data.toList = pathH s.data.toList ∧ Below w.heap.size w w' := by
  have HP := hid (readPath_any s A m w hs S)
  have H0 := hid h0
  clear S h0
  go_enter Tryz.func22, Tryz.ntmps22
  go_wp2_with fail
  refine HP.out.mono ?_
  rintro e w1 ⟨⟨H, n, ev, rfl, hv, hgood, _⟩, hb⟩
  obtain ⟨hH, rfl⟩ := hgood H0.out
  rw [H0.out, errA0] at hv
  subst hv
  have HB := hid hb
  have HH := hid hH
  clear hb hgood hH
  go_wp2_with fail
  go_ret2
  exact ⟨H, rfl, HH.out, HB.out⟩
end Ve
end Go.Proofs.YtmgpapghdbopiaaGreatDoor
