/- What a table's words tell by a map: plain. -/
import Derived.Test.YtgmjbgnjmpllmaaScoreChance
import Derived.Maps.Own
import Derived.Maps.OwnSet
import Derived.Maps.Views
import Derived.StringKeys
import Derived.Sort.Walk0
namespace Go.Proofs.Ytgmjbgnjmpllmaa
open Go.RowKit Go.Lib Go.Maps
namespace Sc
/-- The counts that a map of the words has of a text: those of its last row, none where there is no row. -/
def seenFrom (a : Int × Int) (t : List UInt8) (l : List Wc) : Int × Int := l.foldl (fun a c => if c.word.data.toList = t then (c.good, c.bad) else a) a
def seen (t : List UInt8) (l : List Wc) : Int × Int := seenFrom (0, 0) t l
theorem seen_step (t : List UInt8) (F : List Wc) (i : Nat) (h : i < F.length) : seen t (F.take (i + 1)) = if F[i].word.data.toList = t then (F[i].good, F[i].bad) else seen t (F.take i) := by
  rw [List.take_succ_eq_append_getElem h]
  unfold seen seenFrom
  rw [List.foldl_append]
  rfl
theorem seenFrom_none (t : List UInt8) : ∀ (l : List Wc) (a : Int × Int), (∀ c ∈ l, c.word.data.toList ≠ t) → seenFrom a t l = a
  | [], _, _ => rfl
  | c :: r, a, h => by
    show seenFrom (if c.word.data.toList = t then (c.good, c.bad) else a) t r = a
    rw [if_neg (h c (List.mem_cons_self)), seenFrom_none t r a (fun x hx => h x (List.mem_cons_of_mem _ hx))]
theorem less_iff (x y : ByteArray) : Op.bytesLess x.toList y.toList = true ↔ x.data.toList < y.data.toList := by
  rw [bytesLess_eq, decide_eq_true_iff, ByteArray.toList_eq, ByteArray.toList_eq]
theorem less_all (g b : Int) : ∀ (F : List Wc) (p : ByteArray), rows g b (some p) F = true → ∀ c ∈ F, p.data.toList < c.word.data.toList
  | [], _, _, c, hc => by cases hc
  | a :: r, p, h, c, hc => by
    rw [rows, Bool.and_eq_true] at h
    have h1 := h.1
    unfold okRow at h1
    simp only [Bool.and_eq_true] at h1
    have h2 : p.data.toList < a.word.data.toList := (less_iff _ _).1 h1.2.1
    rcases List.mem_cons.1 hc with rfl | hc
    · exact h2
    · exact List.lt_trans h2 (less_all g b r a.word h.2 c hc)
def pickAt (t : ByteArray) (F : List Wc) : Int × Int := match F[place t F]? with
  | some c => if c.word.toList = t.toList then (c.good, c.bad) else (0, 0)
  | none => (0, 0)
theorem seen_place (g b : Int) (t : ByteArray) : ∀ (F : List Wc) (p : Option ByteArray), rows g b p F = true → seen t.data.toList F = pickAt t F
  | [], _, _ => rfl
  | c :: r, p, h => by
    rw [rows, Bool.and_eq_true] at h
    unfold pickAt place
    by_cases hl : Op.bytesLess c.word.toList t.toList = true
    · rw [if_pos hl]
      have ne : c.word.data.toList ≠ t.data.toList := fun e => by
        have := (less_iff _ _).1 hl
        rw [e] at this
        exact List.lt_irrefl _ this
      show seenFrom (if c.word.data.toList = t.data.toList then (c.good, c.bad) else (0, 0)) t.data.toList r = _
      rw [if_neg ne]
      exact seen_place g b t r _ h.2
    · rw [if_neg hl]
      have hall := less_all g b r c.word h.2
      have none_r : ∀ x ∈ r, x.word.data.toList ≠ t.data.toList := fun x hx e => by
        have := hall x hx
        rw [e] at this
        exact hl ((less_iff _ _).2 this)
      show seenFrom (if c.word.data.toList = t.data.toList then (c.good, c.bad) else (0, 0)) t.data.toList r = _
      rw [seenFrom_none _ r _ none_r]
      show _ = if c.word.toList = t.toList then (c.good, c.bad) else (0, 0)
      rw [ByteArray.toList_eq, ByteArray.toList_eq]
theorem rows_size (g b : Int) : ∀ (F : List Wc) (p : Option ByteArray), rows g b p F = true → ∀ c ∈ F, c.word.size ≤ 20
  | [], _, _, c, hc => by cases hc
  | a :: r, p, h, c, hc => by
    rw [rows, Bool.and_eq_true] at h
    rcases List.mem_cons.1 hc with rfl | hc
    · have h1 := h.1
      unfold okRow word at h1
      simp only [Bool.and_eq_true, decide_eq_true_eq] at h1
      exact h1.1.2.1
    · exact rows_size g b r _ h.2 c hc
/-- What a chance is of counts. -/
def chanceIn (g b : Int) (s : Int × Int) : Int :=
  if s.1 + s.2 < 3 ∨ s.2 * g + s.1 * b = 0 then 50 else
  let q := 100 * (s.2 * g) / (s.2 * g + s.1 * b)
  if q < 1 then 1 else if 99 < q then 99 else q
theorem chanceIn_zero (g b : Int) : chanceIn g b (0, 0) = 50 := by
  unfold chanceIn
  rw [if_pos (.inl (by decide))]
theorem okT_rows (g b : Int) (F : List Wc) (h : okT g b F = true) : rows g b none F = true := by
  unfold okT at h
  simp only [Bool.and_eq_true] at h
  exact h.2.2.2.2.2
theorem chance_seen (g b : Int) (F : List Wc) (t : ByteArray) (h : okT g b F = true) : chance g b F t = chanceIn g b (seen t.data.toList F) := by
  have hr := okT_rows g b F h
  unfold chance
  rw [if_pos h]
  by_cases hs : t.size ≤ 20
  · rw [if_pos hs, seen_place g b t F none hr]
    unfold chanceAt pickAt
    cases hF : F[place t F]? with
    | none => exact (chanceIn_zero g b).symm
    | some c =>
      dsimp only
      by_cases e : c.word.toList = t.toList
      · rw [if_pos e, if_pos e]
        rfl
      · rw [if_neg e, if_neg e]
        exact (chanceIn_zero g b).symm
  · rw [if_neg hs]
    have : seen t.data.toList F = (0, 0) := seenFrom_none _ F _ (fun c hc e => by
      have h1 := rows_size g b F none hr c hc
      have h2 : c.word.data.toList.length = t.data.toList.length := by rw [e]
      rw [Array.length_toList, Array.length_toList] at h2
      have : c.word.size = t.size := h2
      omega)
    rw [this]
    exact (chanceIn_zero g b).symm
theorem seen_in (F : List Wc) (P : Int × Int → Prop) (t : List UInt8) (h0 : P (0, 0)) (h : ∀ c ∈ F, P (c.good, c.bad)) : P (seen t F) := by
  have : ∀ (l : List Wc) (a : Int × Int), P a → (∀ c ∈ l, P (c.good, c.bad)) → P (seenFrom a t l) := by
    intro l
    induction l with
    | nil => intro a ha _; exact ha
    | cons c r ih =>
      intro a ha hl
      show P (seenFrom (if c.word.data.toList = t then (c.good, c.bad) else a) t r)
      refine ih _ ?_ (fun x hx => hl x (List.mem_cons_of_mem _ hx))
      split
      · exact hl c (List.mem_cons_self)
      · exact ha
  exact this F _ h0 h
end Sc
/-- How an element of the map reads: two counts. -/
def ctD (s : Int × Int) : DataW Unit := .agg [.lit (.int .i64 s.1), .lit (.int .i64 s.2)]
def ctElem (v : Value) : Option (DataW Unit × List MemPlace) := match v with
  | .agg cs => (match cs.toList with
    | [.int .i64 a, .int .i64 b] => some (ctD (a, b), [])
    | _ => none)
  | _ => none
theorem ctElem_inv {v : Value} {a b : Int} {ps : List MemPlace} (h : ctElem v = some (ctD (a, b), ps)) : v = .agg #[.int .i64 a, .int .i64 b] := by
  unfold ctElem at h
  split at h
  · rename_i cs
    split at h
    · rename_i a' b' hc
      simp [ctD] at h
      obtain ⟨⟨rfl, rfl⟩, _⟩ := h
      rw [← Array.toArray_toList (xs := cs), hc]
    · cases h
  · cases h
/-- A map that has the counts of the first rows. -/
structure Tal (w : World) (m n : Nat) (F : List Wc) : Prop where
  own : ∃ D : DataW Unit, w.ownsMap Try.prog 9 ctElem m n D ∧ ∀ t : List UInt8, D.atKey (.string t) (ctD (0, 0)) = ctD (Sc.seen t F)
theorem lawStr : Keyed Try.prog 9 := string_keyed Try.underlying9
theorem Tal.put {w : World} {m n : Nat} {F : List Wc} {i : Nat} (h : Tal w m n (F.take i)) (hi : i < F.length) (hs : F[i].word.size ≤ maxLen) (hn : n < maxLen) :
    ∃ w', (Instr.mapUpdate 38 (.map (some m)) (.string F[i].word) (.agg #[.int .i64 F[i].good, .int .i64 F[i].bad])).run Try.prog w = .ok () w' ∧ Tal w' m (n + 1) (F.take (i + 1)) ∧ w.grownBy w' (some m) := by
  obtain ⟨D, hD, hat⟩ := h.own
  obtain ⟨w', h1, h2, h3⟩ := hD.update (e := 37) lawStr Try.underlying38 hn (Go.WideMaps.keyOf_string_mk Try.underlying9 hs) (show ctElem (.agg #[.int .i64 F[i].good, .int .i64 F[i].bad]) = some (ctD (F[i].good, F[i].bad), []) from rfl)
  refine ⟨w', h1, ⟨_, h2, fun t => ?_⟩, h3⟩
  rw [Sc.seen_step t F i hi]
  by_cases e : F[i].word.data.toList = t
  · rw [if_pos e, ← e]
    exact atKey_put_same (k := .string F[i].word.data.toList) hD.isMap trivial _ _
  · rw [if_neg e, atKey_put_other (fun h => e (by injection h with h; exact h.symm))]
    exact hat t
theorem Tal.look {w : World} {m n : Nat} {F : List Wc} (h : Tal w m n F) (t : ByteArray) (hs : t.size ≤ maxLen) (hz : (zeroValue 37).run Try.prog w = .ok (.agg #[.int .i64 0, .int .i64 0]) w) :
    (Instr.lookup 38 (.map (some m)) (.string t) false).run Try.prog w = .ok (.agg #[.int .i64 (Sc.seen t.data.toList F).1, .int .i64 (Sc.seen t.data.toList F).2]) w := by
  obtain ⟨D, hD, hat⟩ := h.own
  obtain ⟨v, ps, h1, h2⟩ := hD.lookup lawStr Try.underlying38 hz (show ctElem (.agg #[.int .i64 0, .int .i64 0]) = some (ctD (0, 0), []) from rfl) (Go.WideMaps.keyOf_string_mk Try.underlying9 hs)
  rw [hat] at h2
  have := ctElem_inv (a := (Sc.seen t.data.toList F).1) (b := (Sc.seen t.data.toList F).2) h2
  rw [this] at h1
  exact h1
theorem Tal.kept {w w' : World} {m n : Nat} {F : List Wc} {row : Option Nat} (h : Tal w m n F) (hg : w.grownBy w' row) (hne : some m ≠ row) : Tal w' m n F := by
  obtain ⟨D, hD, hat⟩ := h.own
  exact ⟨D, hD.kept hg hne, hat⟩
theorem Tal.lt {w : World} {m n : Nat} {F : List Wc} (h : Tal w m n F) : m < w.heap.size := by
  obtain ⟨D, hD, _⟩ := h.own
  exact hD.lt
theorem Tal.below {B : Nat} {w w' : World} {m n : Nat} {F : List Wc} (h : Tal w m n F) (hb : Below B w w') (hm : m < B) : Tal w' m n F := by
  obtain ⟨D, ⟨es, clock, h1, h2⟩, hat⟩ := h.own
  exact ⟨D, ⟨es, clock, (hb.block m hm).trans h1, h2⟩, hat⟩
theorem Tal.made (w : World) (F : List Wc) : Tal (w.alloc (.map #[] 0)) w.heap.size 0 (F.take 0) :=
  ⟨_, World.ownsMap_made (H := Unit) w Try.prog 9 ctElem, fun _ => rfl⟩
end Go.Proofs.Ytgmjbgnjmpllmaa
