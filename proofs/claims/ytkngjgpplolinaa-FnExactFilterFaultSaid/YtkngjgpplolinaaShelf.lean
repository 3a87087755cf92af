
/- No contract of the library is wanted here. -/
import Derived.Test.YtkngjgpplolinaaProg
import Derived.Sort.WalkA
