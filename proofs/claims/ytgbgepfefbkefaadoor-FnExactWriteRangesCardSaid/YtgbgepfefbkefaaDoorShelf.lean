
/- No contract of the library is wanted here. -/
import Derived.Test.YtgbgepfefbkefaaDoorProg
import Derived.Sort.WalkA
