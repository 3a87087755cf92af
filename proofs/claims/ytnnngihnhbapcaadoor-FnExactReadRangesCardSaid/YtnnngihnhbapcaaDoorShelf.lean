
/- No contract of the library is wanted here. -/
import Derived.Test.YtnnngihnhbapcaaDoorProg
import Derived.Sort.WalkA
