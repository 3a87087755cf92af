
/- No contract of the library is wanted here. -/
import Derived.Test.YtomncfpnpbncoaaProg
import Derived.Sort.WalkA
