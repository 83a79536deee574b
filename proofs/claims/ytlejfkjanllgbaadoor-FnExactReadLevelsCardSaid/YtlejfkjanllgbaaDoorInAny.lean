/-
  The walk of spec.l01In, beside what the walks of numbers in signs share.
-/
import Derived.Test.YtlejfkjanllgbaaDoorFixKit
import Derived.Test.YtlejfkjanllgbaaDoorInKit
