/-
  VerOA
-/
import Derived.Test.YtlcffhadobhfkaaGreatDoorMq2
import Derived.Test.YtlcffhadobhfkaaGreatDoorMq5
import Derived.Test.YtlcffhadobhfkaaGreatDoorMq3
import Derived.Test.YtlcffhadobhfkaaGreatDoorMq9
import Derived.Test.YtlcffhadobhfkaaGreatDoorMq13
import Derived.Test.YtlcffhadobhfkaaGreatDoorMq26
namespace Go.Proofs.YtlcffhadobhfkaaGreatDoor
open Go.RowKit
namespace Ve
theorem verOf_any (s : ByteArray) (w : World) (hs : s.size < 4294967281) :
    Calls Tryz.prog 72 #[.string s] w fun e w'=>(verErr s.data.toList ≠ 0 /\ e = .returned (.tuple #[.agg #[.int .i64 0,.int .i64 0,.int .i64 0,.slice none 0 0],.int .i64 (verErr s.data.toList : Nat)]) \/
      verErr s.data.toList = 0 /\ ∃ sa cap X2,e = .returned (.tuple #[.agg #[.int .i64 (nAt s.data.toList 0),.int .i64 (nAt s.data.toList 1),.int .i64 (nAt s.data.toList 2),.slice sa X2.length cap],.int .i64 0]) /\ bl X2 = preOf s.data.toList /\ (X2 = [] \/ ∃ g,sa = some ⟨g,0,none⟩ /\ ∀ j (hj : j < X2.length),w'.cell? ⟨g,j,none⟩ = some (.string X2[j]))) /\ Below w.heap.size w w':=by
  by_cases hm : marked s.data.toList = false
  · have hv : verErr s.data.toList = 1:=by unfold verErr; rw [if_pos (Or.inl hm)]
    rw [hv]
    exact (verOf_head s w hs hm).mono fun e w' ⟨h1,h2⟩=>⟨Or.inl ⟨by omega,h1⟩,h2⟩
  · have hm' : marked s.data.toList = true:=by simpa using hm
    by_cases h3 : (coreOf s.data.toList).length = 3
    · have hn : ¬ (marked s.data.toList = false \/ (coreOf s.data.toList).length ≠ 3):=by rintro (h | h); exact hm h; exact h h3
      cases hp : hasPre s.data.toList
      · have hv : verErr s.data.toList = numsErr (coreOf s.data.toList):=by unfold verErr; rw [if_neg hn,hp]; rfl
        rw [hv]
        refine (verOf_A s w hs hm' hp h3).mono fun e w' ⟨h1,h2⟩=>⟨?_,h2⟩
        by_cases hq : numsErr (coreOf s.data.toList) = 0
        · refine Or.inr ⟨hq,none,0,[],?_,?_,Or.inl rfl⟩
          · rw [h1,hq]; rfl
          · unfold preOf; rw [hp]; rfl
        · refine Or.inl ⟨hq,?_⟩
          rw [h1]; unfold resA; rw [if_neg hq]
      · have hv : verErr s.data.toList = verB s.data.toList:=by rw [verB_eq]; unfold verErr; rw [if_neg hn,hp]; rfl
        rw [hv]
        refine (verOf_B s w hs hm' hp h3).mono fun e w' ⟨h1,h2⟩=>⟨?_,h2⟩
        rcases h1 with h1 | ⟨h0,g,cap,X2,h1,h4,h5,h6⟩
        · exact Or.inl h1
        · exact Or.inr ⟨h0,_,cap,X2,h1,h4,Or.inr ⟨g,rfl,h6⟩⟩
    · have hv : verErr s.data.toList = 1:=by unfold verErr; rw [if_pos (Or.inr h3)]
      rw [hv]
      cases hp : hasPre s.data.toList
      · exact (verOf_A1 s w hs hm' hp h3).mono fun e w' ⟨h1,h2⟩=>⟨Or.inl ⟨by omega,h1⟩,h2⟩
      · exact (verOf_B1 s w hs hm' hp h3).mono fun e w' ⟨h1,h2⟩=>⟨Or.inl ⟨by omega,h1⟩,h2⟩
end Ve
end Go.Proofs.YtlcffhadobhfkaaGreatDoor
