
/- No contract of the library is wanted here. -/
import Derived.Test.YtlkjmgjcofijfaaProg
import Derived.Sort.WalkA
