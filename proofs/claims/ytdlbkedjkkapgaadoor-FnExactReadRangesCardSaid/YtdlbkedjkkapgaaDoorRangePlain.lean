
/- Ranges read: the program's way and the specification's say the same: plain. -/
import Derived.Test.YtdlbkedjkkapgaaDoorSpecReadRanges
import Derived.Test.YtdlbkedjkkapgaaDoorSpecRanges
import Derived.Lib.IndexBytes
import Derived.Lib.IndexMore
import Derived.Lib.SplitLaws
import Derived.Lib.ParseIntB
namespace Go.Proofs.YtdlbkedjkkapgaaDoor
open Go.RowKit Go.Lib Go.Maps
namespace Cu
theorem first_at (d : UInt8) : ∀ l : List UInt8, d ∉ l ∨ ∃ a b, l = a ++ d :: b ∧ d ∉ a
  | [] => .inl (by simp)
  | c :: r => by
    by_cases h : c = d
    · exact .inr ⟨[], r, by rw [h]; rfl, by simp⟩
    · rcases first_at d r with h' | ⟨a, b, e, h'⟩
      · exact .inl (by simp [h']; exact fun e => h e.symm)
      · exact .inr ⟨c :: a, b, by rw [e]; rfl, by simp [h']; exact fun e => h e.symm⟩
theorem ix_free (d : UInt8) : ∀ l : List UInt8, d ∉ l → index l [d] = -1 := by
  intro l
  rw [index_one]
  induction l with
  | nil => intro _; rfl
  | cons c r ih =>
    intro h
    simp only [List.mem_cons, not_or] at h
    unfold indexByte
    rw [if_neg (by simpa using fun e => h.1 e.symm), ih h.2]
    rfl
theorem ix_at (d : UInt8) (b : List UInt8) : ∀ a : List UInt8, d ∉ a → index (a ++ d :: b) [d] = (a.length : Int) := by
  intro a
  rw [index_one]
  induction a with
  | nil =>
    intro _
    show indexByte (d :: b) d = _
    unfold indexByte
    rw [if_pos (by simp)]
    rfl
  | cons c r ih =>
    intro h
    simp only [List.mem_cons, not_or] at h
    show indexByte (c :: (r ++ d :: b)) d = _
    unfold indexByte
    have e := ih h.2
    rw [if_neg (by simpa using fun e => h.1 e.symm), e, if_neg (by simp)]
    simp
theorem cut_free (d : UInt8) : ∀ (l acc : List UInt8), d ∉ l → cut d acc l = [acc ++ l]
  | [], acc, _ => by simp [cut]
  | c :: r, acc, h => by
    simp only [List.mem_cons, not_or] at h
    rw [cut, if_neg (fun e => h.1 e.symm), cut_free d r _ h.2]
    simp
theorem cut_at (d : UInt8) (b : List UInt8) : ∀ (a acc : List UInt8), d ∉ a → cut d acc (a ++ d :: b) = (acc ++ a) :: cut d [] b
  | [], acc, _ => by
    show cut d acc (d :: b) = _
    rw [cut, if_pos rfl, List.append_nil]
  | c :: r, acc, h => by
    simp only [List.mem_cons, not_or] at h
    show cut d acc (c :: (r ++ d :: b)) = _
    rw [cut, if_neg (fun e => h.1 e.symm), cut_at d b r _ h.2]
    simp
/-- At most k cuts: all pieces where they are enough, one piece too much else. -/
theorem split_cut (d : UInt8) : ∀ (k : Nat) (l : List UInt8), ((cut d [] l).length ≤ k + 1 → splitK [d] 0 k l = cut d [] l) ∧ (k + 1 < (cut d [] l).length → (splitK [d] 0 k l).length = k + 1)
  | 0, l => by
    rcases first_at d l with h | ⟨a, b, rfl, h⟩
    · rw [cut_free d l [] h]
      exact ⟨fun _ => rfl, fun h => by simp at h⟩
    · rw [cut_at d b a [] h]
      refine ⟨fun h => ?_, fun _ => rfl⟩
      exfalso
      have := cut_ne d b []
      have : 1 ≤ (cut d [] b).length := by
        cases hc : cut d [] b with
        | nil => exact absurd hc this
        | cons _ _ => simp
      rw [List.length_cons] at h
      omega
  | k + 1, l => by
    rcases first_at d l with h | ⟨a, b, rfl, h⟩
    · rw [cut_free d l [] h]
      unfold splitK
      rw [if_pos (by rw [ix_free d l h]; rfl)]
      exact ⟨fun _ => rfl, fun h => by simp at h⟩
    · have e := ix_at d b a h
      rw [cut_at d b a [] h]
      unfold splitK
      rw [e, if_neg (by simp)]
      have e1 : (a ++ d :: b).take (((a.length : Nat) : Int).toNat + 0) = a := by simp
      have e2 : (a ++ d :: b).drop (((a.length : Nat) : Int).toNat + [d].length) = b := by
        rw [Int.toNat_natCast, List.length_singleton, show a ++ d :: b = (a ++ [d]) ++ b by simp, show a.length + 1 = (a ++ [d]).length by simp, List.drop_left]
      rw [e1, e2]
      obtain ⟨i1, i2⟩ := split_cut d k b
      constructor
      · intro h
        rw [i1 (by simp at h; omega)]
        rfl
      · intro h
        rw [List.length_cons, i2 (by simp at h; omega)]
/-- The end of a range as the program reads it; 0: none. -/
def re (l : List UInt8) : Int := if l = [42] then 4294967295 else if l.length = 0 ∨ 10 < l.length ∨ l.all digit = false ∨ l.head? = some 48 then 0 else (val 0 l : Nat)
theorem re_rnum (l : List UInt8) : 0 ≤ re l ∧ (0 ≤ rnum l ↔ 1 ≤ re l ∧ re l ≤ 4294967295) ∧ (0 ≤ rnum l → rnum l = re l) := by
  unfold re rnum num10 numI
  by_cases h1 : l = [42]
  · rw [if_pos h1, if_pos h1]
    exact ⟨by omega, ⟨fun _ => by omega, fun _ => by omega⟩, fun _ => rfl⟩
  · rw [if_neg h1, if_neg h1]
    by_cases h2 : l.length = 0 ∨ 10 < l.length
    · rw [if_pos h2, if_pos (h2.elim .inl (fun h => .inr (.inl h))), if_pos (.inl (by omega))]
      exact ⟨by omega, ⟨fun h => by omega, fun h => by omega⟩, fun h => by omega⟩
    · rw [if_neg h2]
      cases hd : l.all digit
      · rw [if_pos (c := l.length = 0 ∨ 10 < l.length ∨ false = false ∨ l.head? = some 48) (.inr (.inr (.inl rfl))), if_neg (c := false = true) (by simp), if_pos (.inl (by omega))]
        exact ⟨by omega, ⟨fun h => by omega, fun h => by omega⟩, fun h => by omega⟩
      · rw [if_pos rfl]
        by_cases h3 : l.head? = some 48
        · rw [if_pos (.inr (.inr (.inr h3))), if_pos (.inr (.inr h3))]
          exact ⟨by omega, ⟨fun h => by omega, fun h => by omega⟩, fun h => by omega⟩
        · rw [if_neg (c := l.length = 0 ∨ 10 < l.length ∨ true = false ∨ l.head? = some 48) (by
            rintro (h | h | h | h)
            · exact h2 (.inl h)
            · exact h2 (.inr h)
            · cases h
            · exact h3 h)]
          by_cases h4 : ((val 0 l : Nat) : Int) < 1 ∨ 4294967295 < ((val 0 l : Nat) : Int)
          · rw [if_pos (h4.elim .inl (fun h => .inr (.inl h)))]
            exact ⟨by omega, ⟨fun h => by omega, fun h => by omega⟩, fun h => by omega⟩
          · rw [if_neg (by rintro (h | h | h); exact h4 (.inl h); exact h4 (.inr h); exact h3 h)]
            exact ⟨by omega, ⟨fun h => by omega, fun h => by omega⟩, fun h => rfl⟩
/-- A text with the sign in it is no number. -/
theorem re_sign (l : List UInt8) (h : (58 : UInt8) ∈ l) : re l = 0 := by
  unfold re
  by_cases h1 : l = [42]
  · rw [h1] at h; simp at h
  · rw [if_neg h1]
    have hd : l.all digit = false := by
      rw [List.all_eq_false]
      exact ⟨58, h, by decide⟩
    rw [if_pos (.inr (.inr (.inl hd)))]
def pieceF (p : List UInt8) : List UInt8 := (Lib.cut p [58]).1
def pieceL (p : List UInt8) : List UInt8 := if (Lib.cut p [58]).2.2 then (Lib.cut p [58]).2.1 else (Lib.cut p [58]).1
def rgI (p : List UInt8) : GRange := ⟨min (re (pieceF p)) (re (pieceL p)), max (re (pieceF p)) (re (pieceL p))⟩
theorem libcut_free (p : List UInt8) (h : (58 : UInt8) ∉ p) : Lib.cut p [58] = (p, [], false) := by
  unfold Lib.cut
  rw [ix_free 58 p h]
  rfl
theorem libcut_at (a b : List UInt8) (h : (58 : UInt8) ∉ a) : Lib.cut (a ++ 58 :: b) [58] = (a, b, true) := by
  unfold Lib.cut
  rw [ix_at 58 b a h, if_pos (by omega)]
  have e2 : (a ++ 58 :: b).drop (((a.length : Nat) : Int).toNat + [(58 : UInt8)].length) = b := by
    rw [Int.toNat_natCast, List.length_singleton, show a ++ 58 :: b = (a ++ [58]) ++ b by simp, show a.length + 1 = (a ++ [58]).length by simp, List.drop_left]
  rw [e2]
  simp
theorem okp_rgI (p : List UInt8) : okp p = Rg.rOk (rgI p) ∧ (okp p = true → rg p = rgI p) := by
  have key : ∀ (f l : List UInt8), (decide (0 ≤ rnum f) && decide (0 ≤ rnum l)) = Rg.rOk ⟨min (re f) (re l), max (re f) (re l)⟩ := by
    intro f l
    obtain ⟨f0, f1, -⟩ := re_rnum f
    obtain ⟨l0, l1, -⟩ := re_rnum l
    unfold Rg.rOk
    rw [Bool.eq_iff_iff]
    simp only [Bool.and_eq_true, decide_eq_true_eq, f1, l1]
    omega
  have key2 : ∀ (f l : List UInt8), 0 ≤ rnum f → 0 ≤ rnum l → (if rnum l < rnum f then (⟨rnum l, rnum f⟩ : GRange) else ⟨rnum f, rnum l⟩) = ⟨min (re f) (re l), max (re f) (re l)⟩ := by
    intro f l hf hl
    rw [(re_rnum f).2.2 hf, (re_rnum l).2.2 hl]
    split
    · rw [Int.min_eq_right (by omega), Int.max_eq_left (by omega)]
    · rw [Int.min_eq_left (by omega), Int.max_eq_right (by omega)]
  unfold okp rg rgI pieceF pieceL ra rb
  rcases first_at 58 p with h | ⟨a, b, rfl, h⟩
  · rw [libcut_free p h, cut_free 58 p [] h, List.nil_append]
    simp only [List.length_singleton, List.getD_cons_zero, Nat.sub_self]
    rw [decide_eq_true (show 1 ≤ 2 by omega), Bool.true_and]
    refine ⟨key p p, fun hk => ?_⟩
    simp only [Bool.and_eq_true, decide_eq_true_eq] at hk
    exact key2 p p hk.1 hk.2
  · rw [libcut_at a b h, cut_at 58 b a [] h, List.nil_append]
    rcases first_at 58 b with hb | ⟨a2, b2, rfl, hb⟩
    · rw [cut_free 58 b [] hb, List.nil_append]
      simp only [List.length_cons, List.length_nil, List.getD_cons_zero]
      rw [decide_eq_true (show 0 + 1 + 1 ≤ 2 by omega), Bool.true_and]
      refine ⟨key a b, fun hk => ?_⟩
      simp only [Bool.and_eq_true, decide_eq_true_eq] at hk
      exact key2 a b hk.1 hk.2
    · rw [cut_at 58 b2 a2 [] hb, List.nil_append]
      have hn := cut_ne 58 b2 []
      have hl : 1 ≤ (cut 58 [] b2).length := by
        cases hc : cut 58 [] b2 with
        | nil => exact absurd hc hn
        | cons _ _ => simp
      have hd : decide ((a :: a2 :: cut 58 [] b2).length ≤ 2) = false := decide_eq_false (by simp only [List.length_cons]; omega)
      rw [hd, Bool.false_and]
      have hz := re_sign (a2 ++ 58 :: b2) (by simp)
      have h0 := (re_rnum a).1
      refine ⟨?_, fun h => by cases h⟩
      show false = Rg.rOk ⟨min (re a) (re (a2 ++ 58 :: b2)), max (re a) (re (a2 ++ 58 :: b2))⟩
      rw [hz]
      symm
      unfold Rg.rOk
      rw [Bool.and_eq_false_iff]
      exact .inl (decide_eq_false (by show ¬ 1 ≤ min (re a) 0; omega))
theorem rr_all : ∀ (L : List (List UInt8)) (C : List GRange), C.length + L.length ≤ 100 → rr C L = if L.all okp then C ++ L.map rg else []
  | [], C, _ => by simp [rr]
  | p :: r, C, h => by
    simp only [List.length_cons] at h
    rw [rr, List.all_cons]
    have hc : decide (C.length = 100) = false := decide_eq_false (by omega)
    rw [hc]
    cases hp : okp p
    · rfl
    · rw [Bool.not_false, Bool.and_true, if_pos rfl, rr_all r (C ++ [rg p]) (by simp; omega), Bool.true_and]
      simp
theorem rr_many : ∀ (L : List (List UInt8)) (C : List GRange), C.length ≤ 100 → 100 < C.length + L.length → rr C L = []
  | [], C, h1, h2 => by simp at h2; omega
  | p :: r, C, h1, h2 => by
    simp only [List.length_cons] at h2
    rw [rr]
    by_cases hc : C.length = 100
    · rw [decide_eq_true hc]
      simp
    · rw [decide_eq_false hc]
      cases hp : okp p
      · rfl
      · rw [Bool.not_false, Bool.and_true, if_pos rfl]
        exact rr_many r _ (by simp; omega) (by simp; omega)
/-- How long a text is, by its pieces. -/
theorem cut_total (d : UInt8) : ∀ (l acc : List UInt8), ((cut d acc l).map List.length).sum + (cut d acc l).length = acc.length + l.length + 1
  | [], acc => by simp [cut]
  | c :: r, acc => by
    rw [cut]
    split
    · have := cut_total d r []
      simp only [List.map_cons, List.sum_cons, List.length_cons, List.length_nil] at this ⊢
      omega
    · have := cut_total d r (acc ++ [c])
      simp only [List.length_append, List.length_cons, List.length_nil] at this ⊢
      omega
theorem rnum_short (l : List UInt8) (h : 0 ≤ rnum l) : l.length ≤ 10 := by
  unfold rnum num10 at h
  by_cases h1 : l = [42]
  · rw [h1]; simp
  · rw [if_neg h1] at h
    by_cases h2 : l.length = 0 ∨ 10 < l.length
    · rw [if_pos h2, if_pos (.inl (by omega))] at h
      omega
    · omega
theorem okp_short (p : List UInt8) (h : okp p = true) : p.length ≤ 21 := by
  unfold okp at h
  simp only [Bool.and_eq_true, decide_eq_true_eq] at h
  obtain ⟨h1, h2, h3⟩ := h
  have ht := cut_total 58 p []
  have a := rnum_short _ h2
  have b := rnum_short _ h3
  match hc : cut 58 [] p with
  | [] => exact absurd hc (cut_ne 58 p [])
  | [x] =>
    rw [hc] at ht a
    simp at ht a
    omega
  | [x, y] =>
    rw [hc] at ht a b
    simp at ht a b
    omega
  | x :: y :: z :: t =>
    rw [hc] at h1
    simp at h1
theorem sum_le (L : List (List UInt8)) (h : ∀ p ∈ L, p.length ≤ 21) : (L.map List.length).sum ≤ L.length * 21 := by
  induction L with
  | nil => simp
  | cons p r ih =>
    have := ih (fun x hx => h x (List.mem_cons_of_mem _ hx))
    have := h p (List.mem_cons_self ..)
    simp only [List.map_cons, List.sum_cons, List.length_cons]
    omega
/-- The program's answer, of the pieces that it has cut. -/
def rdI (L : List (List UInt8)) : List GRange := if Rg.rsOk (L.map rgI) then L.map rgI else []
theorem rd_same (t : List UInt8) : rdI (splitK [44] 0 (min 101 (t.length + 1) - 1) t) = if 3000 < t.length then [] else rr [] (cut 44 [] t) := by
  have hlen := cut_len 44 t []
  have htot := cut_total 44 t []
  have hne := cut_ne 44 t []
  obtain ⟨s1, s2⟩ := split_cut 44 (min 101 (t.length + 1) - 1) t
  by_cases h : (cut 44 [] t).length ≤ 100
  · rw [s1 (by omega)]
    generalize cut 44 [] t = L at *
    have hpos : 1 ≤ L.length := by
      cases L with
      | nil => exact absurd rfl hne
      | cons _ _ => simp
    have hall : (L.map rgI).all Rg.rOk = L.all okp := by
      rw [List.all_map]
      congr 1
      funext p
      exact ((okp_rgI p).1).symm
    unfold rdI Rg.rsOk
    rw [List.length_map, decide_eq_true hpos, decide_eq_true h, Bool.true_and, Bool.true_and, hall]
    cases ha : L.all okp
    · rw [if_neg (by simp)]
      split
      · rfl
      · rw [rr_all L [] (by simpa using h), ha]
        rfl
    · rw [if_pos rfl]
      have hok := List.all_eq_true.1 ha
      have := sum_le L (fun p hp => okp_short p (hok p hp))
      rw [if_neg (by simp only [List.length_nil] at htot; omega), rr_all L [] (by simpa using h), ha, if_pos rfl, List.nil_append]
      exact List.map_congr_left fun p hp => ((okp_rgI p).2 (hok p hp)).symm
  · have hr : rr [] (cut 44 [] t) = [] := rr_many _ [] (by simp) (by simp; omega)
    rw [hr]
    have hl : (splitK [44] 0 (min 101 (t.length + 1) - 1) t).length = 101 := by
      have hm : min 101 (t.length + 1) - 1 = 100 := by omega
      rw [hm] at s1 s2 ⊢
      by_cases h' : (cut 44 [] t).length ≤ 101
      · rw [s1 h']; omega
      · rw [s2 (by omega)]
    unfold rdI Rg.rsOk
    rw [List.length_map, hl, decide_eq_false (show ¬ 101 ≤ 100 by omega)]
    simp
end Cu
end Go.Proofs.YtdlbkedjkkapgaaDoor
