/-
  Lists of sectors with texts in memory, and their marks: in a seat that holds chapter 4's texts they stand there. No condition.
-/
import Derived.Test.YtaopkchkhdbfnaaGreatDoorSecJnEq
import Derived.Test.YtaopkchkhdbfnaaGreatDoorRdJn8
