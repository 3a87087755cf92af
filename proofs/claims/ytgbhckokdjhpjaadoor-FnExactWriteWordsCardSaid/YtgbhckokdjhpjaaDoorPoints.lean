
/- Lists of numbers that are handed in; plain mathematics of Encode. -/
import Derived.Test.YtgbhckokdjhpjaaDoorNine
namespace Go.Proofs.YtgbhckokdjhpjaaDoor
open Go.RowKit Go.Lib Go.Maps
/-- The slice of numbers at o, in blocks below B. -/
def Ints (B : Nat) (w : World) (o : Option Addr) (ps : List Int) : Prop := ∀ k (h : k < ps.length), ∃ a, o = some a ∧ a.block < B ∧ w.cell? (a.add k) = some (.int .i64 ps[k])
theorem mkHid {p : Prop} (h : p) : Hid p := h
theorem Ints.below {B : Nat} {w w' : World} {o : Option Addr} {ps : List Int} (h : Ints B w o ps) (hb : Below B w w') : Ints B w' o ps := by
  intro k hk
  obtain ⟨a, rfl, ha, hc⟩ := h k hk
  refine ⟨a, rfl, ha, ?_⟩
  rw [← hc]
  have e : (a.add k).block = a.block := by unfold Addr.add; split <;> rfl
  exact hb.cell (by rw [e]; exact ha)
theorem Ints.mono {B B' : Nat} {w : World} {o : Option Addr} {ps : List Int} (h : Ints B w o ps) (hB : B ≤ B') : Ints B' w o ps := by
  intro k hk
  obtain ⟨a, rfl, ha, hc⟩ := h k hk
  exact ⟨a, rfl, by omega, hc⟩
namespace Pl
def isPt (p : Int) : Bool := decide (0 ≤ p) && (decide (p ≤ 1114111) && !(decide (55296 ≤ p) && decide (p ≤ 57343)))
def by8 (n : Int) : UInt8 := UInt8.ofNat n.toNat
theorem by8_eq (n : Int) (a : UInt8) (h0 : 0 ≤ n) (h1 : n < 256) : by8 n = a ↔ n = (a.toNat : Int) := by
  constructor
  · rintro rfl
    simp [by8, UInt8.toNat_ofNat']
    omega
  · intro h
    apply UInt8.toNat_inj.1
    simp [by8, UInt8.toNat_ofNat']
    omega
theorem by8_val (n : Int) (h0 : 0 ≤ n) (h1 : n < 256) : ((by8 n).toNat : Int) = n := ((by8_eq n _ h0 h1).1 rfl).symm
/-- A point's bytes in a set; none: it has no form. -/
def form (set p : Int) : List UInt8 :=
  if isPt p = false then [] else
  if set = 1 then (if p < 128 then [by8 p] else []) else
  if set = 2 then (if p < 256 then [by8 p] else []) else
  if set = 3 then (match unNine p with | some b => [by8 b] | none => if 255 < p then [] else if (nineOf p).isSome then [] else [by8 p]) else
  if set = 4 then (if p < 128 then [by8 p] else if p < 2048 then [by8 (192 + p / 64), by8 (128 + p % 64)] else if p < 65536 then [by8 (224 + p / 4096), by8 (128 + p / 64 % 64), by8 (128 + p % 64)] else
    [by8 (240 + p / 262144), by8 (128 + p / 4096 % 64), by8 (128 + p / 64 % 64), by8 (128 + p % 64)]) else
  if p < 65536 then [by8 (p / 256), by8 (p % 256)] else
    [by8 ((55296 + (p - 65536) / 1024) / 256), by8 ((55296 + (p - 65536) / 1024) % 256), by8 ((56320 + (p - 65536) % 1024) / 256), by8 ((56320 + (p - 65536) % 1024) % 256)]
theorem form_len (set p : Int) : (form set p).length ≤ 4 := by
  unfold form
  repeat' split
  all_goals simp
/-- The bytes of points behind what is there; none: one of them has no form. -/
def enc (f : Int → List UInt8) : List UInt8 → List Int → Option (List UInt8)
  | out, [] => some out
  | out, p :: r => if (f p).isEmpty then none else enc f (out ++ f p) r
theorem enc_bad {f : Int → List UInt8} {p : List UInt8} {x : Option (List UInt8)} {ps : List Int} {k : Nat} (hk : k < ps.length) (h : f ps[k] = []) (hp : enc f p (ps.drop k) = x) : x = none := by
  rw [List.drop_eq_getElem_cons hk, enc, h] at hp
  exact hp.symm
theorem enc_step {f : Int → List UInt8} {p : List UInt8} {x : Option (List UInt8)} {ps : List Int} {k : Nat} (hk : k < ps.length) (h : f ps[k] ≠ []) (hp : enc f p (ps.drop k) = x) : enc f (p ++ f ps[k]) (ps.drop (k + 1)) = x := by
  rw [List.drop_eq_getElem_cons hk, enc, if_neg (by simpa using h)] at hp
  exact hp
theorem enc_done {f : Int → List UInt8} {p : List UInt8} {x : Option (List UInt8)} {ps : List Int} {k : Nat} (hk : ps.length ≤ k) (hp : enc f p (ps.drop k) = x) : x = some p := by
  rw [List.drop_eq_nil_of_le hk, enc] at hp
  exact hp.symm
end Pl
/-- What both sides answer. -/
def encV (x : Option (List UInt8)) : Value := match x with | some l => .agg #[.bool true, .string ⟨l.toArray⟩] | none => .agg #[.bool false, .string ⟨#[]⟩]
end Go.Proofs.YtgbhckokdjhpjaaDoor
