/- No contract of the library is wanted here. -/
import Derived.Test.YtkjjcoliaoddjaaProg
import Derived.Sort.WalkA
