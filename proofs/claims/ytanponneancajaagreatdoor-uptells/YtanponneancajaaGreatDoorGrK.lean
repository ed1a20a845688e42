/-
  What FindOf of the document's answer says stands beside the ways of the graph.
-/
import Derived.Test.YtanponneancajaaGreatDoorGrH
import Derived.Test.YtanponneancajaaGreatDoorFoA
