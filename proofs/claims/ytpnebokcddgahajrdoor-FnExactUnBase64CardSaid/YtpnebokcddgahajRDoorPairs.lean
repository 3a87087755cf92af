/- A table of rows of a text and a number, as it lies in memory: of no program. -/
import Derived.OpenShut
import Derived.LaidLaws
import Derived.ChangeArms
import Derived.ChangeSame
namespace Go.Proofs.YtpnebokcddgahajRDoor
open Go.ChangeShapes

def pairData {H : Type} (k : IntKind) (zs : List (List UInt8 × Int)) : DataW H := .agg (zs.map fun z => .agg [.lit (.string z.1), .lit (.int k z.2)])
def pairCell (k : IntKind) (z : List UInt8 × Int) : List Value := [.string ⟨z.1.toArray⟩, .int k z.2]

theorem cells_join (k : IntKind) : ∀ (zs : List (List UInt8 × Int)) (cs : List Value), cs.length = zs.length * 2 → (∀ (i : Nat) (hi : i < zs.length), (cs.drop (i * 2)).take 2 = pairCell k zs[i]) → cs = zs.flatMap (pairCell k) := by
  intro zs
  induction zs with
  | nil => intro cs h _; exact List.length_eq_zero_iff.1 (by simpa using h)
  | cons z r ih =>
    intro cs h hz
    have h0 := hz 0 (by simp)
    have e := ih (cs.drop 2) (by simp at h ⊢; omega) (fun i hi => by
      have := hz (i + 1) (by simpa using hi)
      rw [show (i + 1) * 2 = 2 + i * 2 by omega, ← List.drop_drop] at this
      simpa using this)
    rw [List.flatMap_cons, ← e]
    simp only [Nat.zero_mul, List.drop_zero, List.getElem_cons_zero] at h0
    rw [← h0, List.take_append_drop]

theorem cells_of_pairs {H : Type} {enc : TypeId × Value → H} {P : Program} {w : World} {base : Nat} {sp : Nat → Bool} {held : Bool} {fuel : Nat} {t e : TypeId} {n : Nat} {k : IntKind} {f0 f1 : Field} {cs : List Value} {zs : List (List UInt8 × Int)} {p : List MemPlace}
    (ht : P.underlying t = some (.array n e)) (he : P.underlying e = some (.struct #[f0, f1])) (h0 : P.underlying f0.type = some .string) (h1 : P.underlying f1.type = some (.int k))
    (o0 : f0.offset = 0) (o1 : f1.offset = 1) (c0 : P.cellsOf f0.type = 1) (c1 : P.cellsOf f1.type = 1) (ce : P.cellsOf e = 2) (ct : P.cellsOf t = zs.length * 2)
    (h : DataW.trod enc P w base sp held fuel t cs = some (pairData k zs, p)) : cs = zs.flatMap (pairCell k) := by
  obtain ⟨xs, m, rfl, hx, hl, hn, hel⟩ := DataW.trod_array ht h
  have hx1 : zs.map (fun z => (DataW.agg [.lit (.string z.1), .lit (.int k z.2)] : DataW H)) = xs.map (·.1) := by
    have := congrArg Prod.fst hx
    simpa [pairData] using this
  have hxl : xs.length = zs.length := by
    have := congrArg List.length hx1
    simpa using this.symm
  refine cells_join k zs cs (by omega) fun i hi => ?_
  have hi' := hel i (by omega)
  rw [ce] at hi'
  rw [List.getElem?_eq_getElem (by omega)] at hi'
  obtain ⟨y0, y1, n', hy, hl', e0, e1⟩ := trod_struct2 he hi'
  rw [o0, c0] at e0
  rw [o1, c1] at e1
  obtain ⟨s, es, rfl, _⟩ := DataW.trod_string h0 e0
  obtain ⟨z, ez, rfl, _⟩ := DataW.trod_int h1 e1
  have hxi : (xs.map (·.1))[i]? = some (DataW.agg [.lit (.string zs[i].1), .lit (.int k zs[i].2)] : DataW H) := by
    rw [← hx1]
    simp [hi]
  rw [List.getElem?_map, List.getElem?_eq_getElem (by omega), hy] at hxi
  simp only [Option.map_some, Option.some.injEq, DataW.agg.injEq, List.cons.injEq, DataW.lit.injEq, Lit.string.injEq, Lit.int.injEq, true_and, and_true] at hxi
  obtain ⟨hs, rfl⟩ := hxi
  have hlen : ((cs.drop (i * 2)).take 2).length = 2 := by rw [hl', ce]
  generalize (cs.drop (i * 2)).take 2 = l at *
  match l, hlen with
  | [a, b], _ =>
    simp at es ez
    subst es ez
    have : s = ⟨zs[i].1.toArray⟩ := by
      apply ByteArray.ext
      apply Array.toList_inj.1
      rw [hs]
    rw [this]
    rfl
end Go.Proofs.YtpnebokcddgahajRDoor
