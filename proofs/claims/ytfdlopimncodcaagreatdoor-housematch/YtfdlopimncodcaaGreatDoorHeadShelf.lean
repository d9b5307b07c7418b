/-
  The library contracts that the texts of head want.
-/
import Derived.Test.YtfdlopimncodcaaGreatDoorNmShelf
