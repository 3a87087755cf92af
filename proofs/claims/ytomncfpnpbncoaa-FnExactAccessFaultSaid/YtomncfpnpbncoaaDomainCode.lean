
/- A truth as a code. -/
import Derived.Test.YtomncfpnpbncoaaBase
namespace Go.Proofs.Ytomncfpnpbncoaa
def dcode (b : Bool) : Int := if b then 0 else 1
end Go.Proofs.Ytomncfpnpbncoaa
