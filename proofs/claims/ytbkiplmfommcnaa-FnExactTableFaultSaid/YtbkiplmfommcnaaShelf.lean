/- No contract of the library is wanted here. -/
import Derived.Test.YtbkiplmfommcnaaProg
import Derived.Sort.WalkA
