/-
  The walk of spec.l01In, beside what the walks of numbers in signs share.
-/
import Derived.Test.YtlejfkjanllgbaaGreatDoorFixKit
import Derived.Test.YtlejfkjanllgbaaGreatDoorInKit
