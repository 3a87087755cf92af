
/- No contract of the library is wanted here. -/
import Derived.Test.YtnfolnngnmiieaaProg
import Derived.Sort.WalkA
