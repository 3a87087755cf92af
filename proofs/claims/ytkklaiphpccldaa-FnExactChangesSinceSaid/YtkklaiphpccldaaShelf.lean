
/- No contract of the library is wanted here. -/
import Derived.Test.YtkklaiphpccldaaProg
import Derived.Sort.WalkA
