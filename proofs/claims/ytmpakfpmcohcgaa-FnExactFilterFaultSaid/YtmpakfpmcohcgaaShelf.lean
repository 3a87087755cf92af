
/- No contract of the library is wanted here. -/
import Derived.Test.YtmpakfpmcohcgaaProg
import Derived.Sort.WalkA
