/-
  PreT Ten SplitAny VerR
-/
import Derived.Test.YtjhlkjgijbobcaaGreatDoorFt11
import Derived.Test.YtjhlkjgijbobcaaGreatDoorFt5
import Derived.Test.YtjhlkjgijbobcaaGreatDoorRows
import Derived.Test.YtjhlkjgijbobcaaGreatDoorFt2
import Derived.Test.YtjhlkjgijbobcaaGreatDoorFt4
import Derived.LaidHandle
import Derived.Stop.LaidTwo
import Derived.Shelf.Vars
import Derived.Carry
import Derived.ProofKit
import Derived.LaidMore
import Derived.Stop.Joined
import Derived.Test.YtjhlkjgijbobcaaGreatDoorFt10
namespace Go.Proofs.YtjhlkjgijbobcaaGreatDoor
open Go.RowKit
namespace Ve
theorem dec_big {u : Nat} (h : ¬ u < 10) : Lib.decDigits u = Lib.decDigits (u / 10) ++ [UInt8.ofNat (48 + u % 10)] := by rw [Lib.decDigits, dif_neg h]
theorem bl_inj {X Y : List ByteArray} (h : bl X = bl Y) : X = Y := by
  induction X generalizing Y with
  | nil => cases Y with
    | nil => rfl
    | cons y r => simp [bl] at h
  | cons x r ih => cases Y with
    | nil => simp [bl] at h
    | cons y s =>
      simp only [bl, List.map_cons, List.cons.injEq] at h
      rw [str_ext h.1, ih h.2]
end Ve
end Go.Proofs.YtjhlkjgijbobcaaGreatDoor
namespace Go.Proofs.YtjhlkjgijbobcaaGreatDoor
open Go.ChangeShapes Go.WideShapes Go.ChangeAt Go.RowKit
namespace Ve
theorem etName : Tryz.prog.globalNamed "errors.errorType" = some 10 := by kernel_rfl
def rtWord : String := match (Rows.laid_errors_errorType : DataW Unit) with | .iface s _ => s | _ => ""
theorem rtName : (Tryz.prog.cutTypes.find? (·.1 == rtWord)).map (·.2) = some 142 := by kernel_rfl
theorem oneRow : ((List.range 230).filter fun t => Tryz.prog.rowNamed t [101, 114, 114, 111, 114]) = [32] := by kernel_rfl
theorem nTypes : Tryz.prog.types.size = 230 := by kernel_rfl
theorem cellsS : Tryz.prog.cellsOf 219 = 1 := by kernel_rfl
theorem cellsStr : Tryz.prog.cellsOf 9 = 1 := by kernel_rfl
theorem star : "*" ++ "errors.errorString" = "*errors.errorString" := by decide
theorem rowS (u : TypeId) (h : Tryz.prog.typeName? 3 u = some "*errors.errorString") : u = 201 :=
  typeName_ptr_named (nm := "errors.errorString") (by rw [star]; kernel_rfl) (by kernel_rfl) (by decide) u (by rw [star]; exact h)
def tens : List (String × Nat × List UInt8) :=
  [("pewholder/api.ErrText", 3, [112, 101, 119, 104, 111, 108, 100, 101, 114, 58, 32, 116, 101, 120, 116]),
   ("pewholder/api.ErrBound", 1, [112, 101, 119, 104, 111, 108, 100, 101, 114, 58, 32, 98, 111, 117, 110, 100]),
   ("pewholder/api.ErrShape", 4, [112, 101, 119, 104, 111, 108, 100, 101, 114, 58, 32, 115, 104, 97, 112, 101]),
   ("pewholder/api.ErrMajor", 5, [112, 101, 119, 104, 111, 108, 100, 101, 114, 58, 32, 109, 97, 106, 111, 114]),
   ("pewholder/api.ErrNone", 2, [112, 101, 119, 104, 111, 108, 100, 101, 114, 58, 32, 110, 111, 110, 101]),
   ("pewholder/api.ErrExist", 6, [112, 101, 119, 104, 111, 108, 100, 101, 114, 58, 32, 101, 120, 105, 115, 116]),
   ("pewholder/api.ErrFull", 0, [112, 101, 119, 104, 111, 108, 100, 101, 114, 58, 32, 102, 117, 108, 108]),
   ("pewholder/api.ErrOrder", 7, [112, 101, 119, 104, 111, 108, 100, 101, 114, 58, 32, 111, 114, 100, 101, 114]),
   ("pewholder/api.ErrClash", 8, [112, 101, 119, 104, 111, 108, 100, 101, 114, 58, 32, 99, 108, 97, 115, 104]),
   ("pewholder/api.ErrSum", 9, [112, 101, 119, 104, 111, 108, 100, 101, 114, 58, 32, 115, 117, 109])]
theorem tens_named : ∀ x, x ∈ tens → Tryz.prog.globalNamed x.1 = some x.2.1 ∧ (Tryz.prog.globals[x.2.1]?).map (·.type) = some 32 := by
  have h : (tens.all fun x => Tryz.prog.globalNamed x.1 == some x.2.1 && (Tryz.prog.globals[x.2.1]?).map (·.type) == some 32) = true := by kernel_rfl
  intro x hx
  simpa using List.all_eq_true.1 h x hx
theorem sen_of {W : World} (rest : List (String × DataW Unit)) (hl : laidMet Tryz.prog ((tens.map fun x => (x.1, DataW.iface "*errors.errorString" (.ptr (.agg [.lit (.string x.2.2)])))) ++ rest) W)
    (hh : handlesMet Tryz.prog [("errors.errorType", Rows.laid_errors_errorType)] W) : ∃ A, Er.Sen W A := by
  obtain ⟨ps, hl, hnd, hrows⟩ := hl
  obtain ⟨name, u, ty, e1, e2, e3, e4, e5⟩ := hh _ (List.mem_singleton.2 rfl)
  have en : name = [101, 114, 114, 111, 114] := (Option.some.inj e1).symm
  subst en
  obtain rfl := Option.some.inj (rtName.symm.trans e2)
  have hm : ty ∈ (List.range 230).filter fun t => Tryz.prog.rowNamed t [101, 114, 114, 111, 114] := List.mem_filter.2 ⟨List.mem_range.2 (by rw [← nTypes]; exact e3), e4⟩
  rw [oneRow] at hm
  obtain rfl := List.mem_singleton.1 hm
  have hhd : typeHandle Tryz.prog 32 = .pointer (some ⟨14, 32, none⟩) := by kernel_rfl
  rw [hhd] at e5
  have het : W.cell? ⟨10, 0, none⟩ = some (.iface 142 (.agg #[.pointer (some ⟨14, 32, none⟩)])) := by simpa using World.var?_cell etName e5 0
  obtain ⟨al, hlen, hsub, hall⟩ := Er.sens_rest Tryz.underlying32 rowS Tryz.underlying201 Tryz.underlying219 rfl rfl Tryz.underlying9 cellsS cellsStr rest tens ps hl tens_named hrows
  have hten : al.length = 10 := hlen
  refine ⟨fun k => al.getD k ⟨0, 0, none⟩, ?_⟩
  have get : ∀ k, k < 10 → al[k]? = some (al.getD k ⟨0, 0, none⟩) := fun k hk => by
    rw [List.getD_eq_getElem?_getD, List.getElem?_eq_getElem (by omega)]; rfl
  refine ⟨(hall 0 _ _ rfl (get 0 (by omega))).1, (hall 1 _ _ rfl (get 1 (by omega))).1, (hall 2 _ _ rfl (get 2 (by omega))).1, (hall 3 _ _ rfl (get 3 (by omega))).1, (hall 4 _ _ rfl (get 4 (by omega))).1, (hall 5 _ _ rfl (get 5 (by omega))).1, (hall 6 _ _ rfl (get 6 (by omega))).1, (hall 7 _ _ rfl (get 7 (by omega))).1, (hall 8 _ _ rfl (get 8 (by omega))).1, (hall 9 _ _ rfl (get 9 (by omega))).1, het, ?_, ?_⟩
  · intro k hk
    have hx : ∃ x, tens[k]? = some x := ⟨tens[k]'hk, List.getElem?_eq_getElem hk⟩
    obtain ⟨x, hx⟩ := hx
    exact (hall k x _ hx (get k hk)).2
  · intro i j hi hj hij
    have := Er.unlike hsub hnd (i := i) (j := j) (by omega) (by omega) hij
    intro e
    apply this
    have hi' := get i hi
    have hj' := get j hj
    rw [List.getElem?_eq_getElem (by omega)] at hi' hj'
    rw [Option.some.inj hi', Option.some.inj hj']
    exact e
theorem ml_of {W : World} (hsh : W.ShapedOpen Tryz.prog) : ∃ m, W.cell? ⟨11, 0, none⟩ = some (.int .i64 m) :=
  cell_of_shapedOpen_int (P := Tryz.prog) (g := 11) (t := 3) (zero := #[.int .i64 0]) hsh (of_decide_eq_true (by kernel_rfl)) (by kernel_rfl) rfl (by kernel_rfl) (by kernel_rfl) Tryz.underlying3
end Ve
end Go.Proofs.YtjhlkjgijbobcaaGreatDoor
namespace Go.Proofs.YtjhlkjgijbobcaaGreatDoor
open Go.RowKit
namespace Ve
theorem errV_ne {c : Nat} (aT aB : Addr) (h : c ≠ 0) : ∃ a, errV aT aB c = .iface 201 (.pointer (some a)) := by
  unfold errV
  rw [if_neg h]
  split
  · exact ⟨aT, rfl⟩
  · exact ⟨aB, rfl⟩
theorem StrsAt.slice {w : World} {v : Value} {X : List ByteArray} (h : StrsAt w v X) : ∃ p n c, v = .slice p n c := by
  rcases h with ⟨_, rfl⟩ | ⟨_, b, rfl, _⟩ <;> exact ⟨_, _, _, rfl⟩
def GoodP (w w' : World) (e : Ending) (x y z : Int) (X : List ByteArray) : Prop :=
  ∃ v, e = .returned (.tuple #[.agg #[.int .i64 x, .int .i64 y, .int .i64 z, v], .nilIface]) ∧ StrsAt w' v X ∧ Below w.heap.size w w'
theorem vsplit_is (s : ByteArray) (aT aB : Addr) (m : Int) (w : World) (hs : s.size < 4294967281) (S : Vs w aT aB m) (h : verErr s.data.toList = 0) (X : List ByteArray) (hX : bl X = preOf s.data.toList) :
    Calls Tryz.prog 85 #[.string s] w fun e w' => GoodP w w' e (nAt s.data.toList 0) (nAt s.data.toList 1) (nAt s.data.toList 2) X :=
  (vsplit_good s aT aB m w hs S h).mono fun e w' ⟨v, X2, h1, h2, h3, h4⟩ => by
    obtain rfl : X2 = X := bl_inj (h2.trans hX.symm)
    exact ⟨v, h1, h3, h4⟩
def BadP (w w' : World) (e : Ending) : Prop :=
  ∃ a, e = .returned (.tuple #[.agg #[.int .i64 0, .int .i64 0, .int .i64 0, .slice none 0 0], .iface 201 (.pointer (some a))]) ∧ Below w.heap.size w w'
theorem vsplit_not (s : ByteArray) (aT aB : Addr) (m : Int) (w : World) (hs : s.size < 4294967281) (S : Vs w aT aB m) (h : verErr s.data.toList ≠ 0) :
    Calls Tryz.prog 85 #[.string s] w fun e w' => BadP w w' e :=
  (vsplit_bad s aT aB m w hs S h).mono fun e w' ⟨h1, h2⟩ => by
    obtain ⟨a, ha⟩ := errV_ne aT aB h
    exact ⟨a, by rw [h1, ha], h2⟩
def strs (ps : List (List UInt8)) : List ByteArray := ps.map fun p => ⟨p.toArray⟩
theorem bl_strs (ps : List (List UInt8)) : bl (strs ps) = ps := by
  unfold bl strs
  rw [List.map_map]
  conv => rhs; rw [← List.map_id ps]
  apply List.map_congr_left
  intro p _
  rfl
theorem pre_len {l : List UInt8} : (preOf l).length ≤ l.length + 1 := by
  unfold preOf
  split
  · have := cutAt_many 46 (one 45 (restOf l)).2.1
    have h2 := (one_le 45 (restOf l)).2
    have h3 := restOf_le l
    omega
  · simp
theorem pre_size {l p : List UInt8} (h : p ∈ preOf l) : p.length ≤ l.length := by
  unfold preOf at h
  split at h
  · have := cutAt_le 46 _ p h
    have h2 := (one_le 45 (restOf l)).2
    have h3 := restOf_le l
    omega
  · simp at h
end Ve
end Go.Proofs.YtjhlkjgijbobcaaGreatDoor
namespace Go.Proofs.YtjhlkjgijbobcaaGreatDoor
namespace Ve
theorem cb_range : ∀ (a b : List UInt8), Lib.compareBytes a b = -1 ∨ Lib.compareBytes a b = 0 ∨ Lib.compareBytes a b = 1
  | [], [] => by simp [Lib.compareBytes]
  | [], _ :: _ => by simp [Lib.compareBytes]
  | _ :: _, [] => by simp [Lib.compareBytes]
  | a :: x, b :: y => by
    unfold Lib.compareBytes
    split
    · simp
    · split
      · simp
      · exact cb_range x y
theorem u8_eq {a b : UInt8} (h1 : ¬ a < b) (h2 : ¬ b < a) : a = b := UInt8.le_antisymm (UInt8.not_lt.1 h2) (UInt8.not_lt.1 h1)
theorem cb_zero : ∀ (a b : List UInt8), Lib.compareBytes a b = 0 ↔ a = b
  | [], [] => by simp [Lib.compareBytes]
  | [], _ :: _ => by simp [Lib.compareBytes]
  | _ :: _, [] => by simp [Lib.compareBytes]
  | a :: x, b :: y => by
    unfold Lib.compareBytes
    by_cases h : a < b
    · rw [if_pos h]
      constructor
      · intro e; cases e
      · intro e; injection e with e1 _; subst e1; exact absurd h (UInt8.lt_irrefl a)
    · rw [if_neg h]
      by_cases h2 : b < a
      · rw [if_pos h2]
        constructor
        · intro e; cases e
        · intro e; injection e with e1 _; subst e1; exact absurd h2 (UInt8.lt_irrefl a)
      · rw [if_neg h2, cb_zero x y, u8_eq h h2]
        simp
theorem cb_swap : ∀ (a b : List UInt8), Lib.compareBytes b a = -Lib.compareBytes a b
  | [], [] => by simp [Lib.compareBytes]
  | [], _ :: _ => by simp [Lib.compareBytes]
  | _ :: _, [] => by simp [Lib.compareBytes]
  | a :: x, b :: y => by
    unfold Lib.compareBytes
    by_cases h : a < b
    · have h2 : ¬ b < a := fun h3 => UInt8.lt_irrefl a (UInt8.lt_trans h h3)
      rw [if_pos h, if_neg h2, if_pos h]; rfl
    · by_cases h2 : b < a
      · rw [if_pos h2, if_neg h, if_pos h2]
      · rw [if_neg h, if_neg h2, if_neg h2, if_neg h]; exact cb_swap x y
theorem cb_less : ∀ (a b : List UInt8), Op.bytesLess a b = decide (Lib.compareBytes a b < 0)
  | [], [] => by simp [Lib.compareBytes, Op.bytesLess]
  | [], _ :: _ => by simp [Lib.compareBytes, Op.bytesLess]
  | _ :: _, [] => by simp [Lib.compareBytes, Op.bytesLess]
  | a :: x, b :: y => by
    unfold Lib.compareBytes Op.bytesLess
    by_cases h : a < b
    · rw [if_pos h]; simp [h]
    · rw [if_neg h]
      by_cases h2 : b < a
      · rw [if_pos h2]
        have : (a == b) = false := by
          cases e : (a == b)
          · rfl
          · have := eq_of_beq e; subst this; exact absurd h2 (UInt8.lt_irrefl a)
        simp [h, this]
      · rw [if_neg h2, u8_eq h h2, cb_less x y]
        simp [UInt8.lt_irrefl]
theorem cb_more (a b : List UInt8) : (!(Op.bytesLess a b || a == b)) = decide (0 < Lib.compareBytes a b) := by
  rw [cb_less]
  have e : (a == b) = decide (Lib.compareBytes a b = 0) := by
    rw [Bool.eq_iff_iff]; simp [cb_zero]
  rw [e]
  rcases cb_range a b with h | h | h <;> rw [h] <;> rfl
theorem ci_zero (x y : Int) : Lib.compareInt x y = 0 ↔ x = y := by
  unfold Lib.compareInt; split
  · constructor <;> intro h <;> omega
  · split
    · constructor <;> intro h <;> omega
    · constructor <;> intro h <;> omega
theorem ci_lt {x y : Int} (h : x < y) : Lib.compareInt x y = -1 := by unfold Lib.compareInt; rw [if_pos h]
theorem ci_gt {x y : Int} (h : y < x) : Lib.compareInt x y = 1 := by unfold Lib.compareInt; rw [if_neg (by omega), if_pos h]
theorem ci_self (x : Int) : Lib.compareInt x x = 0 := (ci_zero x x).2 rfl
def fst (a b : Int) : Int := if a = 0 then b else a
theorem fst0 (b : Int) : fst 0 b = b := rfl
theorem fst_ne {a : Int} (b : Int) (h : a ≠ 0) : fst a b = a := by unfold fst; rw [if_neg h]
def ordPart (a b : List UInt8) : Int :=
  if digs a then (if digs b then fst (Lib.compareInt a.length b.length) (Lib.compareBytes a b) else -1) else if digs b then 1 else Lib.compareBytes a b
def ordPs : List (List UInt8) → List (List UInt8) → Int
  | [], [] => 0
  | [], _ :: _ => -1
  | _ :: _, [] => 1
  | x :: xs, y :: ys => fst (ordPart x y) (ordPs xs ys)
def ordPre (a b : List (List UInt8)) : Int := if a = [] ∨ b = [] then Lib.compareInt b.length a.length else ordPs a b
def ordN (x y z : Int) (p : List (List UInt8)) (x' y' z' : Int) (q : List (List UInt8)) : Int :=
  fst (Lib.compareInt x x') (fst (Lib.compareInt y y') (fst (Lib.compareInt z z') (ordPre p q)))
def ordV (s t : List UInt8) : Int := ordN (nAt s 0) (nAt s 1) (nAt s 2) (preOf s) (nAt t 0) (nAt t 1) (nAt t 2) (preOf t)
theorem valTo_cmp : ∀ (p q : List UInt8) (n m : Int), p.length = q.length → p.all dig = true → q.all dig = true →
    (n < m → valTo n p < valTo m q) ∧ (m < n → valTo m q < valTo n p) ∧ (n = m → Lib.compareInt (valTo n p) (valTo m q) = Lib.compareBytes p q)
  | [], [], n, m, _, _, _ => ⟨fun h => h, fun h => h, fun h => by subst h; exact ci_self _⟩
  | [], _ :: _, _, _, h, _, _ => by simp at h
  | _ :: _, [], _, _, h, _, _ => by simp at h
  | c :: p, d :: q, n, m, h, hp, hq => by
    simp only [List.all_cons, Bool.and_eq_true] at hp hq
    have hc := dig_bd hp.1
    have hd := dig_bd hq.1
    obtain ⟨i1, i2, i3⟩ := valTo_cmp p q (10 * n + ((c.toNat : Int) - 48)) (10 * m + ((d.toNat : Int) - 48)) (by simpa using h) hp.2 hq.2
    have e1 : valTo n (c :: p) = valTo (10 * n + ((c.toNat : Int) - 48)) p := rfl
    have e2 : valTo m (d :: q) = valTo (10 * m + ((d.toNat : Int) - 48)) q := rfl
    rw [e1, e2]
    refine ⟨fun h => i1 (by omega), fun h => i2 (by omega), fun h => ?_⟩
    subst h
    unfold Lib.compareBytes
    by_cases h1 : c < d
    · rw [if_pos h1]
      have : c.toNat < d.toNat := UInt8.lt_iff_toNat_lt.1 h1
      exact ci_lt (i1 (by omega))
    · rw [if_neg h1]
      by_cases h2 : d < c
      · rw [if_pos h2]
        have : d.toNat < c.toNat := UInt8.lt_iff_toNat_lt.1 h2
        exact ci_gt (i2 (by omega))
      · rw [if_neg h2]
        have := u8_eq h1 h2
        subst this
        exact i3 rfl
theorem num0 {p : List UInt8} (h : (num p).2 = 0) : digs p = true ∧ zero p = false ∧ (num p).1 = valTo 0 p ∧ p.all dig = true := by
  have hd : digs p = true := by
    cases e : digs p
    · unfold num at h; rw [e] at h; simp at h
    · rfl
  have hz : zero p = false := by
    cases e : zero p
    · rfl
    · unfold num at h; rw [e] at h; simp at h
  have h6 := num_six p hd hz
  have : ¬ 6 < p.length := by
    intro hh; rw [if_pos hh] at h6; rw [h6] at h; cases h
  rw [if_neg this] at h6
  refine ⟨hd, hz, by rw [h6], ?_⟩
  unfold digs at hd
  simp only [Bool.and_eq_true] at hd
  exact hd.2
theorem val_len {p q : List UInt8} (hp : p.all dig = true) (hq : q.all dig = true) (hz : zero q = false) (h : p.length < q.length) (h0 : 0 < p.length) : valTo 0 p < valTo 0 q := by
  have b1 := (valTo_bd p 0 hp (by omega)).2
  cases q with
  | nil => simp at h
  | cons c r =>
    simp only [List.all_cons, Bool.and_eq_true] at hq
    have hc := dig_bd hq.1
    have hr : 1 < (c :: r).length := by simp at h ⊢; omega
    have hne : c ≠ 48 := by
      intro e
      unfold zero at hz
      rw [decide_eq_true hr, e] at hz
      simp at hz
    have hn : c.toNat ≠ 48 := fun e => hne (UInt8.toNat_inj.1 (by rw [e]; rfl))
    have b2 := (valTo_bd r (10 * 0 + ((c.toNat : Int) - 48)) hq.2 (by omega)).1
    have e : valTo 0 (c :: r) = valTo (10 * 0 + ((c.toNat : Int) - 48)) r := rfl
    rw [e]
    have h4 : (10 : Int) ^ p.length ≤ 10 ^ r.length := by
      have : (10 : Nat) ^ p.length ≤ 10 ^ r.length := Nat.pow_le_pow_right (by omega) (by simp at h; omega)
      exact_mod_cast this
    have h5 : (1 : Int) * 10 ^ r.length ≤ (10 * 0 + ((c.toNat : Int) - 48)) * 10 ^ r.length := Int.mul_le_mul_of_nonneg_right (by omega) (by
      have : (0 : Int) < 10 ^ r.length := Int.pow_pos (by omega)
      omega)
    omega
theorem num_cmp {p q : List UInt8} (hp : (num p).2 = 0) (hq : (num q).2 = 0) : Lib.compareInt (num p).1 (num q).1 = fst (Lib.compareInt p.length q.length) (Lib.compareBytes p q) := by
  obtain ⟨p1, p2, p3, p4⟩ := num0 hp
  obtain ⟨q1, q2, q3, q4⟩ := num0 hq
  have lp : 0 < p.length := by unfold digs at p1; simp at p1; exact p1.1
  have lq : 0 < q.length := by unfold digs at q1; simp at q1; exact q1.1
  rw [p3, q3]
  rcases Nat.lt_trichotomy p.length q.length with h | h | h
  · rw [ci_lt (val_len p4 q4 q2 h lp), ci_lt (by omega)]; rfl
  · rw [h, ci_self, fst0]
    exact (valTo_cmp p q 0 0 h p4 q4).2.2 rfl
  · rw [ci_gt (val_len q4 p4 p2 h lq), ci_gt (by omega)]; rfl
theorem part_num {p : List UInt8} (h : part p = 0) (hd : digs p = true) : (num p).2 = 0 := by
  unfold part at h
  split at h
  · cases h
  · rw [if_neg (by rw [hd]; simp)] at h; exact h
def ordPartN (a b : List UInt8) : Int :=
  if digs a then (if digs b then Lib.compareInt (num a).1 (num b).1 else -1) else if digs b then 1 else Lib.compareBytes a b
theorem ordPart_num {a b : List UInt8} (ha : part a = 0) (hb : part b = 0) : ordPartN a b = ordPart a b := by
  unfold ordPartN ordPart
  by_cases h1 : digs a = true
  · rw [if_pos h1, if_pos h1]
    by_cases h2 : digs b = true
    · rw [if_pos h2, if_pos h2, num_cmp (part_num ha h1) (part_num hb h2)]
    · rw [if_neg h2, if_neg h2]
  · rw [if_neg h1, if_neg h1]
end Ve
end Go.Proofs.YtjhlkjgijbobcaaGreatDoor
