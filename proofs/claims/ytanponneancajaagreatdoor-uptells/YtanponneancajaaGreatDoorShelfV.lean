/-
  Nothing: this program holds no such function.
-/
import Derived.Test.YtanponneancajaaGreatDoorProg
