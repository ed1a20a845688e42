/-
  ModBack, all its ways together.
-/
import Derived.Test.YtmgpapghdbopiaaDoorModBackB
import Derived.Test.YtmgpapghdbopiaaDoorModBackC
namespace Go.Proofs.YtmgpapghdbopiaaDoor
open Go.RowKit
namespace Ve

theorem modBack_any (p v q u s : ByteArray) (A : Nat → Addr) (m : Int) (w : World) (S : Te w A m) (hp : p.size ≤ maxLen) (hv : v.size ≤ maxLen) (hq : q.size ≤ maxLen) (hu : u.size ≤ maxLen) (hs : s.size ≤ maxLen) :
    Calls Tryd.prog 4 #[.agg #[.string p, .string v], .agg #[.string q, .string u], .string s] w fun e w' => e = .returned (.bool true) ∧ Below w.heap.size w w' := by
  by_cases hl : 150 < s.size ∨ 90 < p.size ∨ 60 < v.size ∨ 90 < q.size ∨ 60 < u.size
  · exact back_long p v q u s A m w S hl hp hv hq hu hs
  · by_cases hr : readErr s.data.toList = 0
    · by_cases ha : modErr p.data.toList v.data.toList = 0
      · by_cases hb : modErr q.data.toList u.data.toList = 0
        · exact back_r2 p v q u s A m w S (by omega) (by omega) (by omega) (by omega) (by omega) hr ha hb
        · exact back_r1 p v q u s A m w S (by omega) (by omega) (by omega) (by omega) (by omega) hr ha hb
      · exact back_r0 p v q u s A m w S (by omega) (by omega) (by omega) (by omega) (by omega) hr ha
    · by_cases ha : modErr p.data.toList v.data.toList = 0
      · by_cases hb : modErr q.data.toList u.data.toList = 0
        · exact back_n2 p v q u s A m w S (by omega) (by omega) (by omega) (by omega) (by omega) hr ha hb
        · exact back_n1 p v q u s A m w S (by omega) (by omega) (by omega) (by omega) (by omega) hr ha hb
      · exact back_n0 p v q u s A m w S (by omega) (by omega) (by omega) (by omega) (by omega) hr ha
end Ve
end Go.Proofs.YtmgpapghdbopiaaDoor
