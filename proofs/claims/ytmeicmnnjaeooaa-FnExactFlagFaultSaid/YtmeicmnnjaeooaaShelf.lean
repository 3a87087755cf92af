
/- No contract of the library is wanted here. -/
import Derived.Test.YtmeicmnnjaeooaaProg
import Derived.Sort.WalkA
