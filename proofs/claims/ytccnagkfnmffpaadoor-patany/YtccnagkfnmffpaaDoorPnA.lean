/-
  pewholderlaw3.PatAny walked: what always matches does, where package pat answers as it is asked to.
-/
import Derived.Test.YtccnagkfnmffpaaDoorPtP
import Derived.Test.YtccnagkfnmffpaaDoorIdA
namespace Go.Proofs.YtccnagkfnmffpaaDoor
open Go.RowKit
namespace Ve

/-- Is there a dot among the first bytes? -/
def dtB (l : List UInt8) (i : Nat) : Bool := (l.take i).any fun c => c == 46
theorem dtB_next {l : List UInt8} {i : Nat} (h : i < l.length) : dtB l (i + 1) = (dtB l i || l[i] == 46) := by
  unfold dtB
  rw [List.take_succ_eq_append_getElem h, List.any_append]; simp
theorem dtB_none {l : List UInt8} {n : Nat} (hn : l.length = n) (h : dtB l n = false) : 46 ∉ l := fun hm => by
  unfold dtB at h
  rw [← hn, List.take_length] at h
  have h2 : (l.any fun c => c == 46) = true := List.any_eq_true.2 ⟨46, hm, rfl⟩
  rw [h] at h2; cases h2
theorem b46 (c : UInt8) : ((c.toNat : Int) == 46) = (c == 46) := by
  rw [Bool.eq_iff_iff, beq_iff_eq, beq_iff_eq]
  constructor
  · intro h; exact UInt8.toNat_inj.1 (by have : c.toNat = 46 := by omega
                                         rw [this]; rfl)
  · intro h; rw [h]; rfl
theorem app_list (x y : ByteArray) : (x ++ y).data.toList = x.data.toList ++ y.data.toList := by simp
theorem ism_between {a b u : ByteArray} (ha : 46 ∉ a.data.toList) (hb : 46 ∉ b.data.toList) : ismB (a ++ ⟨#[46, 46, 46]⟩ ++ b) (a ++ u ++ b) = true := ism_mat (by
  unfold matB
  rw [app_list, app_list, app_list, app_list]
  exact mat_between ha hb)
theorem ism_left {a t : ByteArray} (ha : 46 ∉ a.data.toList) : ismB (a ++ ⟨#[46, 46, 46]⟩) (a ++ t) = true := ism_mat (by
  unfold matB
  rw [app_list, app_list]
  have := mat_between (a := a.data.toList) (b := []) (u := t.data.toList) ha (by simp)
  rw [List.append_nil, List.append_nil] at this
  exact this)
theorem ism_right {b t : ByteArray} (hb : 46 ∉ b.data.toList) : ismB ((⟨#[46, 46, 46]⟩ : ByteArray) ++ b) (t ++ b) = true := ism_mat (by
  unfold matB
  rw [app_list, app_list]
  have := mat_between (a := []) (b := b.data.toList) (u := t.data.toList) (by simp) hb
  rw [List.nil_append, List.nil_append] at this
  exact this)
theorem ism_dots (s : ByteArray) : ismB ⟨#[46, 46, 46]⟩ s = true := ism_mat (mat_all _)
theorem siz3 : (⟨#[46, 46, 46]⟩ : ByteArray).size = 3 := rfl
set_option maxRecDepth 100000 in
set_option maxHeartbeats 4000000 in
theorem pn_main {T : World → Prop} (MC : MatchC T) (WC : WildC T) (KT : StayT T) (a b s t u : ByteArray) (w : World) (hT : T w) (ha : a.size ≤ 30) (hb : b.size ≤ 30) (hs : s.size ≤ 30) (ht : t.size ≤ 30) (hu : u.size ≤ 30) :
    Calls Tryd.prog 3 #[.string a, .string b, .string s, .string t, .string u] w fun e w' => e = .returned (.bool true) ∧ Below w.heap.size w w' := by
  have g1 : ¬ (30 : Int) < (a.size : Int) := by omega
  have g2 : ¬ (30 : Int) < (b.size : Int) := by omega
  have g3 : ¬ (30 : Int) < (s.size : Int) := by omega
  have g4 : ¬ (30 : Int) < (t.size : Int) := by omega
  have g5 : ¬ (30 : Int) < (u.size : Int) := by omega
  have HPD := hid (patterned_any MC WC KT w hT)
  have HM := hid (fun p x W (hp : p.size ≤ 100) (hx : x.size ≤ 100) (h : Below w.heap.size w W) => MC p x W hp hx (KT w W hT h))
  have HW := hid (fun W (h : Below w.heap.size w W) => WC s W (by omega) (KT w W hT h))
  have HA := hid (len_eq a)
  have HBl := hid (len_eq b)
  have HMD := hid (fun W (h : Below w.heap.size w W) => show Calls Tryd.prog 5 #[.string ⟨#[46, 46, 46]⟩, .string s] W fun e w' => e = .returned (.bool true) ∧ Below W.heap.size W w' by
    have := HM.out ⟨#[46, 46, 46]⟩ s W (by decide) (by omega) h
    rw [ism_dots] at this; exact this)
  have HM1 := hid (fun (h1 : 46 ∉ a.data.toList) (h2 : 46 ∉ b.data.toList) W (h : Below w.heap.size w W) => show Calls Tryd.prog 5 #[.string (a ++ ⟨#[46, 46, 46]⟩ ++ b), .string (a ++ u ++ b)] W fun e w' => e = .returned (.bool true) ∧ Below W.heap.size W w' by
    have := HM.out (a ++ ⟨#[46, 46, 46]⟩ ++ b) (a ++ u ++ b) W (by rw [ByteArray.size_append, ByteArray.size_append, siz3]; omega) (by rw [ByteArray.size_append, ByteArray.size_append]; omega) h
    rw [ism_between h1 h2] at this; exact this)
  have HM2 := hid (fun (h1 : 46 ∉ a.data.toList) W (h : Below w.heap.size w W) => show Calls Tryd.prog 5 #[.string (a ++ ⟨#[46, 46, 46]⟩), .string (a ++ t)] W fun e w' => e = .returned (.bool true) ∧ Below W.heap.size W w' by
    have := HM.out (a ++ ⟨#[46, 46, 46]⟩) (a ++ t) W (by rw [ByteArray.size_append, siz3]; omega) (by rw [ByteArray.size_append]; omega) h
    rw [ism_left h1] at this; exact this)
  have HM3 := hid (fun (h2 : 46 ∉ b.data.toList) W (h : Below w.heap.size w W) => show Calls Tryd.prog 5 #[.string ((⟨#[46, 46, 46]⟩ : ByteArray) ++ b), .string (t ++ b)] W fun e w' => e = .returned (.bool true) ∧ Below W.heap.size W w' by
    have := HM.out (⟨#[46, 46, 46]⟩ ++ b) (t ++ b) W (by rw [ByteArray.size_append, siz3]; omega) (by rw [ByteArray.size_append]; omega) h
    rw [ism_right h2] at this; exact this)
  have HMS := hid (fun (h0 : wildB s = false) x (hx : x.size ≤ 30) W (h : Below w.heap.size w W) => show Calls Tryd.prog 5 #[.string s, .string x] W fun e w' => e = .returned (.bool (decide (s = x))) ∧ Below W.heap.size W w' by
    have := HM.out s x W (by omega) (by omega) h
    rw [ism_tame h0] at this; exact this)
  have HEQ := hid (show (s.toList == t.toList) = decide (s = t) by
    by_cases h : s = t
    · subst h; simp
    · rw [decide_eq_false h, str_ne h])
  clear MC WC KT hT HM
  go_enter Tryd.func3, Tryd.ntmps3
  go_wp2_with fail
  refine HPD.out.mono ?_
  rintro e w1 ⟨rfl, hb1⟩
  have HB1 := hid hb1
  clear hb1 HPD
  go_wp2_with fail
  refine (HMD.out _ HB1.out).mono ?_
  rintro e w2 ⟨rfl, hb2⟩
  have HB2 := hid (HB1.out.trans (hb2.mono HB1.out.size))
  clear hb2 HMD HB1
  go_wp2_with fail
  refine (HW.out _ HB2.out).mono ?_
  rintro e w3 ⟨rfl, hb3⟩
  have HB3 := hid (HB2.out.trans (hb3.mono HB2.out.size))
  clear hb3 HW HB2
  cases hwd : wildB s
  · have HQ1 := hid (HMS.out hwd s hs _ HB3.out)
    have HQ2 := hid (fun W (h : Below w.heap.size w W) => HMS.out hwd t ht W h)
    rw [decide_eq_true rfl] at HQ1
    generalize decide (s = t) = z at *
    have zq : (z != z) = false := by simp
    have he := HEQ.out
    clear hwd HMS
    go_wp2_with fail
    refine HQ1.out.mono ?_
    rintro e w4 ⟨rfl, hb4⟩
    have HB4 := hid (HB3.out.trans (hb4.mono HB3.out.size))
    clear hb4
    go_wp2_with fail
    refine (HQ2.out _ HB4.out).mono ?_
    rintro e w5 ⟨rfl, hb5⟩
    have HB5 := hid (HB4.out.trans (hb5.mono HB4.out.size))
    clear hb5
    go_wp2_with fail
    go_loopw [12, 13] (fun dv iv wr => ∃ i : Nat, i ≤ a.size ∧ iv = .int .i64 i ∧ dv = .bool (dtB a.data.toList i) ∧ wr = w5) (fun _ iv _ => a.size - (intOf iv).toNat)
    case atStart => exact ⟨0, Nat.zero_le _, rfl, rfl, rfl⟩
    case round =>
      obtain ⟨i, hi, rfl, rfl, rfl⟩ := hrel
      by_cases hlt : i < a.size
      · skip
        have hiI := ix_lt hlt
        have hi0 := ix_pos i
        have HLT := hid hlt
        have HN := hid (dtB_next (l := a.data.toList) (i := i) (by rw [HA.out]; exact hlt))
        rw [show a.data.toList[i]'(by rw [HA.out]; exact hlt) = a[i] from rfl] at HN
        have hq : ((a[i].toNat : Int) == 46) = (a[i] == 46) := b46 _
        generalize (a[i] == 46) = bc at *
        cases hd : dtB a.data.toList i
        · rw [hd] at HN
          clear hlt hd
          go_wp2_with fail
          go_roundw
          case rel => exact ⟨i + 1, HLT.out, by first | exact nr_idx i | exact nx_idx HLT.out (by omega : a.size ≤ 1000000), by rw [HN.out]; first | rfl | (simp; done) | (simp; exact hq), by first | rfl | trivial⟩
          case measure => first | exact nr_meas HLT.out | exact nx_meas HLT.out (by omega : a.size ≤ 1000000)
        · rw [hd] at HN
          clear hlt hd
          go_wp2_with fail
          go_roundw
          case rel => exact ⟨i + 1, HLT.out, by first | exact nr_idx i | exact nx_idx HLT.out (by omega : a.size ≤ 1000000), by rw [HN.out]; first | rfl | (simp; done) | (simp; exact hq), by first | rfl | trivial⟩
          case measure => first | exact nr_meas HLT.out | exact nx_meas HLT.out (by omega : a.size ≤ 1000000)
      · have hiI := ix_nlt hlt
        have hie : i = a.size := by omega
        subst hie
        obtain ⟨wo, hwo⟩ : ∃ wo, wo = wr := ⟨_, rfl⟩
        subst hwo
        have HDA := hid (fun h => dtB_none (l := a.data.toList) HA.out h)
        generalize dtB a.data.toList a.size = da at *
        clear hlt hi
        go_wp2_with fail
        go_loopw [12, 14] (fun dv iv wr => ∃ i : Nat, i ≤ b.size ∧ iv = .int .i64 i ∧ dv = .bool (da || dtB b.data.toList i) ∧ wr = wo) (fun _ iv _ => b.size - (intOf iv).toNat)
        case atStart => exact ⟨0, Nat.zero_le _, rfl, by simp [dtB], rfl⟩
        case round =>
          obtain ⟨i, hi, rfl, rfl, rfl⟩ := hrel
          by_cases hlt : i < b.size
          · skip
            have hiI := ix_lt hlt
            have hi0 := ix_pos i
            have HLT := hid hlt
            have HN := hid (dtB_next (l := b.data.toList) (i := i) (by rw [HBl.out]; exact hlt))
            rw [show b.data.toList[i]'(by rw [HBl.out]; exact hlt) = b[i] from rfl] at HN
            have hq : ((b[i].toNat : Int) == 46) = (b[i] == 46) := b46 _
            generalize (b[i] == 46) = bc at *
            cases da
            · cases hd : dtB b.data.toList i
              · rw [hd] at HN
                clear hlt hd
                go_wp2_with fail
                go_roundw
                case rel => exact ⟨i + 1, HLT.out, by first | exact nr_idx i | exact nx_idx HLT.out (by omega : b.size ≤ 1000000), by rw [HN.out]; first | rfl | (simp; done) | (simp; exact hq), by first | rfl | trivial⟩
                case measure => first | exact nr_meas HLT.out | exact nx_meas HLT.out (by omega : b.size ≤ 1000000)
              · rw [hd] at HN
                clear hlt hd
                go_wp2_with fail
                go_roundw
                case rel => exact ⟨i + 1, HLT.out, by first | exact nr_idx i | exact nx_idx HLT.out (by omega : b.size ≤ 1000000), by rw [HN.out]; first | rfl | (simp; done) | (simp; exact hq), by first | rfl | trivial⟩
                case measure => first | exact nr_meas HLT.out | exact nx_meas HLT.out (by omega : b.size ≤ 1000000)
            · clear hlt
              go_wp2_with fail
              go_roundw
              case rel => exact ⟨i + 1, HLT.out, by first | exact nr_idx i | exact nx_idx HLT.out (by omega : b.size ≤ 1000000), by rw [HN.out]; first | rfl | (simp; done) | (simp; exact hq), by first | rfl | trivial⟩
              case measure => first | exact nr_meas HLT.out | exact nx_meas HLT.out (by omega : b.size ≤ 1000000)
          · have hiI := ix_nlt hlt
            have hie : i = b.size := by omega
            subst hie
            have HDB := hid (fun h => dtB_none (l := b.data.toList) HBl.out h)
            generalize dtB b.data.toList b.size = db at *
            clear hlt hi
            cases da
            · cases db
              · have HX1 := hid (HM1.out (HDA.out rfl) (HDB.out rfl) _ HB5.out)
                have HX2 := hid (fun W (h : Below w.heap.size w W) => HM2.out (HDA.out rfl) W h)
                have HX3 := hid (fun W (h : Below w.heap.size w W) => HM3.out (HDB.out rfl) W h)
                clear HM1 HM2 HM3 HDA HDB
                have o1 : ¬ 9223372036854775807 < a.size + 3 := by omega
                have o2 : ¬ 9223372036854775807 < a.size + 3 + b.size := by omega
                have o3 : ¬ 9223372036854775807 < a.size + u.size := by omega
                have o4 : ¬ 9223372036854775807 < a.size + u.size + b.size := by omega
                have o5 : ¬ 9223372036854775807 < a.size + t.size := by omega
                have o6 : ¬ 9223372036854775807 < 3 + b.size := by omega
                have o7 : ¬ 9223372036854775807 < t.size + b.size := by omega
                go_wp2_with fail
                refine HX1.out.mono ?_
                rintro e w6 ⟨rfl, hb6⟩
                have HB6 := hid (HB5.out.trans (hb6.mono HB5.out.size))
                clear hb6
                go_wp2_with fail
                refine (HX2.out _ HB6.out).mono ?_
                rintro e w7 ⟨rfl, hb7⟩
                have HB7 := hid (HB6.out.trans (hb7.mono HB6.out.size))
                clear hb7
                go_wp2_with fail
                refine (HX3.out _ HB7.out).mono ?_
                rintro e w8 ⟨rfl, hb8⟩
                have HB8 := hid (HB7.out.trans (hb8.mono HB7.out.size))
                clear hb8
                go_wp2_with fail
                go_ret
                exact ⟨rfl, HB8.out⟩
              · go_wp2_with fail
                go_ret
                exact ⟨rfl, HB5.out⟩
            · cases db
              · go_wp2_with fail
                go_ret
                exact ⟨rfl, HB5.out⟩
              · go_wp2_with fail
                go_ret
                exact ⟨rfl, HB5.out⟩
  · clear hwd HMS
    go_wp2_with fail
    go_loopw [12, 13] (fun dv iv wr => ∃ i : Nat, i ≤ a.size ∧ iv = .int .i64 i ∧ dv = .bool (dtB a.data.toList i) ∧ wr = w3) (fun _ iv _ => a.size - (intOf iv).toNat)
    case atStart => exact ⟨0, Nat.zero_le _, rfl, rfl, rfl⟩
    case round =>
      obtain ⟨i, hi, rfl, rfl, rfl⟩ := hrel
      by_cases hlt : i < a.size
      · skip
        have hiI := ix_lt hlt
        have hi0 := ix_pos i
        have HLT := hid hlt
        have HN := hid (dtB_next (l := a.data.toList) (i := i) (by rw [HA.out]; exact hlt))
        rw [show a.data.toList[i]'(by rw [HA.out]; exact hlt) = a[i] from rfl] at HN
        have hq : ((a[i].toNat : Int) == 46) = (a[i] == 46) := b46 _
        generalize (a[i] == 46) = bc at *
        cases hd : dtB a.data.toList i
        · rw [hd] at HN
          clear hlt hd
          go_wp2_with fail
          go_roundw
          case rel => exact ⟨i + 1, HLT.out, by first | exact nr_idx i | exact nx_idx HLT.out (by omega : a.size ≤ 1000000), by rw [HN.out]; first | rfl | (simp; done) | (simp; exact hq), by first | rfl | trivial⟩
          case measure => first | exact nr_meas HLT.out | exact nx_meas HLT.out (by omega : a.size ≤ 1000000)
        · rw [hd] at HN
          clear hlt hd
          go_wp2_with fail
          go_roundw
          case rel => exact ⟨i + 1, HLT.out, by first | exact nr_idx i | exact nx_idx HLT.out (by omega : a.size ≤ 1000000), by rw [HN.out]; first | rfl | (simp; done) | (simp; exact hq), by first | rfl | trivial⟩
          case measure => first | exact nr_meas HLT.out | exact nx_meas HLT.out (by omega : a.size ≤ 1000000)
      · have hiI := ix_nlt hlt
        have hie : i = a.size := by omega
        subst hie
        obtain ⟨wo, hwo⟩ : ∃ wo, wo = wr := ⟨_, rfl⟩
        subst hwo
        have HDA := hid (fun h => dtB_none (l := a.data.toList) HA.out h)
        generalize dtB a.data.toList a.size = da at *
        clear hlt hi
        go_wp2_with fail
        go_loopw [12, 14] (fun dv iv wr => ∃ i : Nat, i ≤ b.size ∧ iv = .int .i64 i ∧ dv = .bool (da || dtB b.data.toList i) ∧ wr = wo) (fun _ iv _ => b.size - (intOf iv).toNat)
        case atStart => exact ⟨0, Nat.zero_le _, rfl, by simp [dtB], rfl⟩
        case round =>
          obtain ⟨i, hi, rfl, rfl, rfl⟩ := hrel
          by_cases hlt : i < b.size
          · skip
            have hiI := ix_lt hlt
            have hi0 := ix_pos i
            have HLT := hid hlt
            have HN := hid (dtB_next (l := b.data.toList) (i := i) (by rw [HBl.out]; exact hlt))
            rw [show b.data.toList[i]'(by rw [HBl.out]; exact hlt) = b[i] from rfl] at HN
            have hq : ((b[i].toNat : Int) == 46) = (b[i] == 46) := b46 _
            generalize (b[i] == 46) = bc at *
            cases da
            · cases hd : dtB b.data.toList i
              · rw [hd] at HN
                clear hlt hd
                go_wp2_with fail
                go_roundw
                case rel => exact ⟨i + 1, HLT.out, by first | exact nr_idx i | exact nx_idx HLT.out (by omega : b.size ≤ 1000000), by rw [HN.out]; first | rfl | (simp; done) | (simp; exact hq), by first | rfl | trivial⟩
                case measure => first | exact nr_meas HLT.out | exact nx_meas HLT.out (by omega : b.size ≤ 1000000)
              · rw [hd] at HN
                clear hlt hd
                go_wp2_with fail
                go_roundw
                case rel => exact ⟨i + 1, HLT.out, by first | exact nr_idx i | exact nx_idx HLT.out (by omega : b.size ≤ 1000000), by rw [HN.out]; first | rfl | (simp; done) | (simp; exact hq), by first | rfl | trivial⟩
                case measure => first | exact nr_meas HLT.out | exact nx_meas HLT.out (by omega : b.size ≤ 1000000)
            · clear hlt
              go_wp2_with fail
              go_roundw
              case rel => exact ⟨i + 1, HLT.out, by first | exact nr_idx i | exact nx_idx HLT.out (by omega : b.size ≤ 1000000), by rw [HN.out]; first | rfl | (simp; done) | (simp; exact hq), by first | rfl | trivial⟩
              case measure => first | exact nr_meas HLT.out | exact nx_meas HLT.out (by omega : b.size ≤ 1000000)
          · have hiI := ix_nlt hlt
            have hie : i = b.size := by omega
            subst hie
            have HDB := hid (fun h => dtB_none (l := b.data.toList) HBl.out h)
            generalize dtB b.data.toList b.size = db at *
            clear hlt hi
            cases da
            · cases db
              · have HX1 := hid (HM1.out (HDA.out rfl) (HDB.out rfl) _ HB3.out)
                have HX2 := hid (fun W (h : Below w.heap.size w W) => HM2.out (HDA.out rfl) W h)
                have HX3 := hid (fun W (h : Below w.heap.size w W) => HM3.out (HDB.out rfl) W h)
                clear HM1 HM2 HM3 HDA HDB
                have o1 : ¬ 9223372036854775807 < a.size + 3 := by omega
                have o2 : ¬ 9223372036854775807 < a.size + 3 + b.size := by omega
                have o3 : ¬ 9223372036854775807 < a.size + u.size := by omega
                have o4 : ¬ 9223372036854775807 < a.size + u.size + b.size := by omega
                have o5 : ¬ 9223372036854775807 < a.size + t.size := by omega
                have o6 : ¬ 9223372036854775807 < 3 + b.size := by omega
                have o7 : ¬ 9223372036854775807 < t.size + b.size := by omega
                go_wp2_with fail
                refine HX1.out.mono ?_
                rintro e w6 ⟨rfl, hb6⟩
                have HB6 := hid (HB3.out.trans (hb6.mono HB3.out.size))
                clear hb6
                go_wp2_with fail
                refine (HX2.out _ HB6.out).mono ?_
                rintro e w7 ⟨rfl, hb7⟩
                have HB7 := hid (HB6.out.trans (hb7.mono HB6.out.size))
                clear hb7
                go_wp2_with fail
                refine (HX3.out _ HB7.out).mono ?_
                rintro e w8 ⟨rfl, hb8⟩
                have HB8 := hid (HB7.out.trans (hb8.mono HB7.out.size))
                clear hb8
                go_wp2_with fail
                go_ret
                exact ⟨rfl, HB8.out⟩
              · go_wp2_with fail
                go_ret
                exact ⟨rfl, HB3.out⟩
            · cases db
              · go_wp2_with fail
                go_ret
                exact ⟨rfl, HB3.out⟩
              · go_wp2_with fail
                go_ret
                exact ⟨rfl, HB3.out⟩
end Ve
end Go.Proofs.YtccnagkfnmffpaaDoor
