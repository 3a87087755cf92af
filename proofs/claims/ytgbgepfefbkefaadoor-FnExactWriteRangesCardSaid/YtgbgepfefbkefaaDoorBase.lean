
/- The walks' base: a long text, a text whose bytes are all of a kind, the copy of a text. -/
import Derived.Test.YtgbgepfefbkefaaDoorChecked
import Derived.Test.YtgbgepfefbkefaaDoorFoldPlain
import Derived.Test.YtgbgepfefbkefaaDoorBytes
import Derived.Test.YtgbgepfefbkefaaDoorShelf
import Derived.Shelf.Abstract
import Derived.WalkKit
import Derived.WalkLawsBesides
import Derived.WalkSpells
namespace Go.Proofs.YtgbgepfefbkefaaDoor
open Go.RowKit Go.Lib
theorem Tryd.info5 : (Tryd.prog.info? 5).map (fun i => (i.zero, i.size, i.bytes)) = some (some (.int .u8 0), 1, 1) := by kernel_rfl
/-- A function value that tells a byte's kind. -/
structure Kind (f : FuncId) (K : UInt8 → Bool) : Prop where
  enters : ∀ (args : Array Value) (w : World), (callFunc f args).run Tryd.prog w = .ok (.enter f args) w
  calls : ∀ (c : UInt8) (w : World), Calls Tryd.prog f #[.int .u8 (c.toNat : Int)] w fun e w' => e = .returned (.bool (K c)) ∧ w = w'
end Go.Proofs.YtgbgepfefbkefaaDoor
