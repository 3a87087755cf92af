
/- No contract of the library is wanted here. -/
import Derived.Test.YtopbokfloapbeaaProg
import Derived.Sort.WalkA
