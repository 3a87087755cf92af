
/- Plain mathematics of the set latin9: the eight bytes that are not the points of their numbers, from both sides. -/
import Derived.Maps.RangeWalk
import Derived.Maps.Ext
import Derived.Maps.OwnSet
namespace Go.Proofs.YtgbhckokdjhpjaaDoor
open Go.Maps
namespace Pl
/-- The point of a byte, where that is not its number. -/
def nineOf (x : Int) : Option Int :=
  if x = 164 then some 8364 else if x = 166 then some 352 else if x = 168 then some 353 else if x = 180 then some 381 else
  if x = 184 then some 382 else if x = 188 then some 338 else if x = 189 then some 339 else if x = 190 then some 376 else none
/-- The byte of such a point. -/
def unNine (p : Int) : Option Int :=
  if p = 8364 then some 164 else if p = 352 then some 166 else if p = 353 then some 168 else if p = 381 then some 180 else
  if p = 382 then some 184 else if p = 338 then some 188 else if p = 339 then some 189 else if p = 376 then some 190 else none
theorem nine_un {x p : Int} (h : nineOf x = some p) : unNine p = some x := by
  unfold nineOf at h
  repeat (split at h; (· subst_vars; cases h; rfl))
  cases h
theorem un_nine {x p : Int} (h : unNine p = some x) : nineOf x = some p := by
  unfold unNine at h
  repeat (split at h; (· subst_vars; cases h; rfl))
  cases h
def nineD : DataW Unit :=
  ((((((((DataW.map [] : DataW Unit).put (.int .u8 164) (.lit (.int .i64 8364))).put (.int .u8 166) (.lit (.int .i64 352))).put (.int .u8 168) (.lit (.int .i64 353))).put (.int .u8 180) (.lit (.int .i64 381))).put
    (.int .u8 184) (.lit (.int .i64 382))).put (.int .u8 188) (.lit (.int .i64 338))).put (.int .u8 189) (.lit (.int .i64 339))).put (.int .u8 190) (.lit (.int .i64 376))
theorem ne_key {q : IntKind} {a b : Int} (h : a ≠ b) : Lit.int q a ≠ Lit.int q b := fun e => h (by cases e; rfl)
theorem nineD_at (x : Int) (z : DataW Unit) : nineD.atKey (.int .u8 x) z = match nineOf x with | some p => .lit (.int .i64 p) | none => z := by
  by_cases h0 : x = 164
  · subst h0; rfl
  by_cases h1 : x = 166
  · subst h1; rfl
  by_cases h2 : x = 168
  · subst h2; rfl
  by_cases h3 : x = 180
  · subst h3; rfl
  by_cases h4 : x = 184
  · subst h4; rfl
  by_cases h5 : x = 188
  · subst h5; rfl
  by_cases h6 : x = 189
  · subst h6; rfl
  by_cases h7 : x = 190
  · subst h7; rfl
  have e : nineOf x = none := by simp [nineOf, h0, h1, h2, h3, h4, h5, h6, h7]
  rw [e]
  unfold nineD
  rw [atKey_put_other (ne_key h7), atKey_put_other (ne_key h6), atKey_put_other (ne_key h5), atKey_put_other (ne_key h4), atKey_put_other (ne_key h3), atKey_put_other (ne_key h2), atKey_put_other (ne_key h1), atKey_put_other (ne_key h0)]
  rfl
theorem nineD_has (x : Int) : Maps.has nineD (.int .u8 x) = (nineOf x).isSome := by
  by_cases h0 : x = 164
  · subst h0; rfl
  by_cases h1 : x = 166
  · subst h1; rfl
  by_cases h2 : x = 168
  · subst h2; rfl
  by_cases h3 : x = 180
  · subst h3; rfl
  by_cases h4 : x = 184
  · subst h4; rfl
  by_cases h5 : x = 188
  · subst h5; rfl
  by_cases h6 : x = 189
  · subst h6; rfl
  by_cases h7 : x = 190
  · subst h7; rfl
  have e : nineOf x = none := by simp [nineOf, h0, h1, h2, h3, h4, h5, h6, h7]
  rw [e]
  unfold nineD
  rw [has_put_other (ne_key h7), has_put_other (ne_key h6), has_put_other (ne_key h5), has_put_other (ne_key h4), has_put_other (ne_key h3), has_put_other (ne_key h2), has_put_other (ne_key h1), has_put_other (ne_key h0)]
  rfl
theorem nineD_entry {x c : Int} (h : ∀ z, nineD.atKey (.int .u8 x) z = .lit (.int .i64 c)) : nineOf x = some c := by
  have h1 := h .nil
  rw [nineD_at] at h1
  cases e : nineOf x with
  | none => rw [e] at h1; cases h1
  | some p => rw [e] at h1; cases h1; rfl
/-- The other map holds just the entries that are no longer to come. -/
structure Inv (D : DataW Unit) (left : Lit → Bool) : Prop where
  map : IsMap D
  has : ∀ p b, unNine p = some b → Maps.has D (.int .i64 p) = !left (.int .u8 b)
  no : ∀ p, unNine p = none → Maps.has D (.int .i64 p) = false
  elem : ∀ p b z, unNine p = some b → left (.int .u8 b) = false → D.atKey (.int .i64 p) z = .lit (.int .u8 b)
theorem inv_start : Inv (.map []) (Maps.has nineD) where
  map := ⟨[], rfl⟩
  has := fun p b h => by rw [nineD_has, un_nine h]; rfl
  no := fun p h => rfl
  elem := fun p b z h h1 => by rw [nineD_has, un_nine h] at h1; cases h1
theorem inv_step {D : DataW Unit} {left : Lit → Bool} (h : Inv D left) {x c : Int} (hx : nineOf x = some c) : Inv (D.put (.int .i64 c) (.lit (.int .u8 x))) (fun z => left z && !z.sameKey (.int .u8 x)) where
  map := by
    obtain ⟨es, rfl⟩ := h.map
    exact ⟨_, rfl⟩
  has := fun p b hp => by
    by_cases e : p = c
    · subst e
      rw [nine_un hx] at hp
      cases hp
      rw [has_put_same (k := .int .i64 p) h.map trivial, show (Lit.int .u8 x).sameKey (Lit.int .u8 x) = true from WideAt.sameKey_self trivial]
      simp
    · rw [has_put_other (ne_key e), h.has p b hp]
      have hb : b ≠ x := fun e2 => e (by subst e2; have := un_nine hp; rw [hx] at this; cases this; rfl)
      have : (Lit.int .u8 b).sameKey (Lit.int .u8 x) = false := by simp [Lit.sameKey, hb]
      simp [this]
  no := fun p hp => by
    have e : p ≠ c := fun e => by subst e; rw [nine_un hx] at hp; cases hp
    rw [has_put_other (ne_key e), h.no p hp]
  elem := fun p b z hp hl => by
    by_cases e : p = c
    · subst e
      rw [nine_un hx] at hp
      cases hp
      rw [atKey_put_same (k := .int .i64 p) h.map trivial]
    · rw [atKey_put_other (ne_key e)]
      have hb : b ≠ x := fun e2 => e (by subst e2; have := un_nine hp; rw [hx] at this; cases this; rfl)
      have hs : (Lit.int .u8 b).sameKey (Lit.int .u8 x) = false := by simp [Lit.sameKey, hb]
      exact h.elem p b z hp (by simpa [hs] using hl)
/-- Both maps as they stand at the end. -/
structure Inv0 (D : DataW Unit) : Prop where
  has : ∀ p, Maps.has D (.int .i64 p) = (unNine p).isSome
  elem : ∀ p b z, unNine p = some b → D.atKey (.int .i64 p) z = .lit (.int .u8 b)
theorem inv_end {D : DataW Unit} {left : Lit → Bool} (h : Inv D left) (hl : ∀ k, left k = false) : Inv0 D where
  has := fun p => by
    cases e : unNine p with
    | none => rw [h.no p e]; rfl
    | some b => rw [h.has p b e, hl]; rfl
  elem := fun p b z hp => h.elem p b z hp (hl _)
end Pl
end Go.Proofs.YtgbhckokdjhpjaaDoor
