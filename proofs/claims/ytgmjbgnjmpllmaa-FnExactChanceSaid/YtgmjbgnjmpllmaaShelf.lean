/- No contract of the library is wanted here. -/
import Derived.Test.YtgmjbgnjmpllmaaProg
import Derived.Sort.WalkA
