/-
  The walk of spec.l01In, beside what the walks of numbers in signs share.
-/
import Derived.Test.YtkakiollhhmmaaaFixKit
import Derived.Test.YtkakiollhhmmaaaInKit
