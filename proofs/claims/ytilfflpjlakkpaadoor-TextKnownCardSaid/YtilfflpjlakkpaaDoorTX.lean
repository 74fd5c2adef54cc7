/-
  What package text's functions do, call by call: all of them together.
  Conditions: those that each theorem names.
-/
import Derived.Test.YtilfflpjlakkpaaDoorUH
