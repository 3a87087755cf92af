
/- FnExactSubjectOf: plain mathematics: blanks made one, signs taken away on both sides in any order. -/

/- Blanks taken off both ends, the specification's side. -/

/- The specification's cut of a text at a byte, and its number. -/
import Derived.WalkKit
import Derived.Test.YtajkahpkbeobaaaGreatDoorReadPlain
import Derived.Test.YtajkahpkbeobaaaGreatDoorSubjFind
namespace Go.Proofs.YtajkahpkbeobaaaGreatDoor
namespace Sj
def bl (c : UInt8) : Bool := c == 32 || c == 9
def tl (l : List UInt8) : List UInt8 := l.dropWhile bl
def tr (l : List UInt8) : List UInt8 := (l.reverse.dropWhile bl).reverse
set_option maxRecDepth 20000 in
theorem dropW_append (a b : List UInt8) : (a ++ b).dropWhile bl = if (a.dropWhile bl).isEmpty then b.dropWhile bl else a.dropWhile bl ++ b := by
  induction a with
  | nil => rfl
  | cons c r ih =>
    rw [List.cons_append, List.dropWhile_cons, List.dropWhile_cons]
    by_cases h : bl c = true
    · rw [if_pos h, if_pos h, ih]
    · rw [if_neg h, if_neg h]; rfl
set_option maxRecDepth 20000 in
theorem tr_cons (c : UInt8) (r : List UInt8) : tr (c :: r) = if bl c && (tr r).isEmpty then [] else c :: tr r := by
  unfold tr
  rw [List.reverse_cons, dropW_append]
  by_cases h : (r.reverse.dropWhile bl).isEmpty = true
  · rw [if_pos h]
    have h2 : (r.reverse.dropWhile bl).reverse.isEmpty = true := by simpa using h
    rw [h2, Bool.and_true, List.dropWhile_cons]
    have h3 : (r.reverse.dropWhile bl).reverse = [] := by simpa using h
    by_cases hb : bl c = true
    · rw [if_pos hb, if_pos hb]; rfl
    · rw [if_neg hb, if_neg hb, h3]; rfl
  · rw [if_neg h]
    have h2 : (r.reverse.dropWhile bl).reverse.isEmpty = false := by simpa using h
    rw [h2, Bool.and_false, if_neg (by simp), List.reverse_append]
    rfl
set_option maxRecDepth 20000 in
theorem tr_nil : tr [] = [] := rfl
set_option maxRecDepth 20000 in
theorem tl_cons (c : UInt8) (r : List UInt8) : tl (c :: r) = if bl c then tl r else c :: r := by
  unfold tl
  rw [List.dropWhile_cons]
set_option maxRecDepth 20000 in
theorem tl_tr (m : List UInt8) : tl (tr m) = tr (tl m) := by
  induction m with
  | nil => rfl
  | cons c r ih =>
    rw [tr_cons, tl_cons]
    by_cases hb : bl c = true
    · rw [hb, Bool.true_and, if_pos rfl]
      by_cases he : (tr r).isEmpty = true
      · rw [if_pos he]
        have : tr r = [] := by simpa using he
        rw [this] at ih
        exact ih
      · rw [if_neg he, tl_cons, if_pos hb, ih]
    · have hb' : bl c = false := by simpa using hb
      rw [hb', Bool.false_and, if_neg (by simp), if_neg (by simp), tl_cons, if_neg hb, tr_cons, hb', Bool.false_and, if_neg (by simp)]
set_option maxRecDepth 20000 in
/-- Behind a text that ends in no blank the end alone is cut. -/
theorem tr_behind (p : List UInt8) (d : UInt8) (hd : bl d = false) (x : List UInt8) : tr (p ++ d :: x) = p ++ d :: tr x := by
  induction p with
  | nil => rw [List.nil_append, tr_cons, hd, Bool.false_and, if_neg (by simp)]; rfl
  | cons c r ih =>
    rw [List.cons_append, tr_cons, ih, if_neg]
    · rfl
    · cases r <;> simp
set_option maxRecDepth 20000 in
theorem tl_ahead (m : List UInt8) (d : UInt8) (hd : bl d = false) (q : List UInt8) : tl (m ++ d :: q) = tl m ++ d :: q := by
  unfold tl
  rw [dropW_append]
  by_cases h : (m.dropWhile bl).isEmpty = true
  · rw [if_pos h, List.dropWhile_cons, if_neg (by rw [hd]; simp)]
    have : m.dropWhile bl = [] := by simpa using h
    rw [this]; rfl
  · rw [if_neg h]
set_option maxRecDepth 20000 in
theorem tl_le (m : List UInt8) : (tl m).length ≤ m.length := by
  induction m with
  | nil => exact Nat.le_refl _
  | cons c r ih => rw [tl_cons]; split <;> simp <;> omega
set_option maxRecDepth 20000 in
theorem tr_le (m : List UInt8) : (tr m).length ≤ m.length := by
  unfold tr
  rw [List.length_reverse]
  exact Nat.le_trans (tl_le _) (by simp)
set_option maxRecDepth 20000 in
theorem tl_tl (m : List UInt8) : tl (tl m) = tl m := by
  induction m with
  | nil => rfl
  | cons c r ih =>
    rw [tl_cons]
    by_cases h : bl c = true
    · rw [if_pos h, ih]
    · rw [if_neg h, tl_cons, if_neg h]
set_option maxRecDepth 20000 in
theorem tr_tr (m : List UInt8) : tr (tr m) = tr m := by
  have := tl_tl m.reverse
  unfold tr
  rw [List.reverse_reverse]
  unfold tl at this
  rw [this]
/-- The sign at the end, and those at the beginning. -/
def fwd : List UInt8 := [40, 102, 119, 100, 41]
def re : List UInt8 := [114, 101, 58]
def fw : List UInt8 := [102, 119, 58]
def fw2 : List UInt8 := [102, 119, 100, 58]
def begins (l p : List UInt8) : Bool := p.isPrefixOf l
def ends (l p : List UInt8) : Bool := p.isSuffixOf l
/-- One sign away, as the program does it. -/
def cutM (l : List UInt8) : Option (List UInt8) :=
  if ends l fwd then some (tr (l.take (l.length - 5)))
  else if begins l re then some (tl (l.drop 3))
  else if begins l fw then some (tl (l.drop 3))
  else if begins l fw2 then some (tl (l.drop 4))
  else none
set_option maxRecDepth 20000 in
theorem ends_is {l : List UInt8} (h : ends l fwd = true) : ∃ m, l = m ++ fwd ∧ l.take (l.length - 5) = m := by
  unfold ends at h
  rw [List.isSuffixOf_iff_suffix] at h
  obtain ⟨m, rfl⟩ := h
  refine ⟨m, rfl, ?_⟩
  rw [List.length_append, show fwd.length = 5 from rfl, Nat.add_sub_cancel, List.take_left]
set_option maxRecDepth 20000 in
theorem ends_mk (m : List UInt8) : ends (m ++ fwd) fwd = true := by
  unfold ends
  rw [List.isSuffixOf_iff_suffix]
  exact ⟨m, rfl⟩
set_option maxRecDepth 20000 in
theorem cutM_fwd (m : List UInt8) : cutM (m ++ fwd) = some (tr m) := by
  unfold cutM
  obtain ⟨m', h1, h2⟩ := ends_is (ends_mk m)
  rw [if_pos (ends_mk m), h2]
  rw [List.append_cancel_right h1]
/-- A sign at the beginning. -/
structure IsMark (p : List UInt8) : Prop where
  it : p = re ∨ p = fw ∨ p = fw2
set_option maxRecDepth 20000 in
theorem begins_is {l p : List UInt8} (h : begins l p = true) : l = p ++ l.drop p.length := by
  unfold begins at h
  rw [List.isPrefixOf_iff_prefix] at h
  obtain ⟨x, rfl⟩ := h
  rw [List.drop_left]
set_option maxRecDepth 20000 in
theorem begins_mk (p x : List UInt8) : begins (p ++ x) p = true := by
  unfold begins
  rw [List.isPrefixOf_iff_prefix]
  exact ⟨x, rfl⟩
set_option maxRecDepth 20000 in
theorem cutM_mark {p : List UInt8} (hp : IsMark p) (x : List UInt8) (h : ends (p ++ x) fwd = false) : cutM (p ++ x) = some (tl x) := by
  unfold cutM
  rw [h, if_neg (by simp)]
  rcases hp.it with rfl | rfl | rfl
  · rw [if_pos (begins_mk _ _)]; rfl
  · rw [if_neg (by simp [begins, re, fw]), if_pos (begins_mk _ _)]; rfl
  · rw [if_neg (by simp [begins, re, fw2]), if_neg (by simp [begins, fw, fw2]), if_pos (begins_mk _ _)]; rfl
set_option maxRecDepth 20000 in
theorem cutM_lt {l r : List UInt8} (h : cutM l = some r) : r.length < l.length := by
  unfold cutM at h
  split at h
  · rename_i h1
    obtain ⟨m, h2, h3⟩ := ends_is h1
    rw [h3] at h
    have := tr_le m
    obtain rfl := Option.some.inj h
    rw [h2, List.length_append, show fwd.length = 5 from rfl]
    omega
  · have key : ∀ p : List UInt8, begins l p = true → 0 < p.length → some (tl (l.drop p.length)) = some r → r.length < l.length := by
      intro p hp h0 h
      obtain rfl := Option.some.inj h
      have := tl_le (l.drop p.length)
      have h2 := congrArg List.length (begins_is hp)
      rw [List.length_append] at h2
      omega
    split at h
    · exact key re (by assumption) (by decide) h
    · split at h
      · exact key fw (by assumption) (by decide) h
      · split at h
        · exact key fw2 (by assumption) (by decide) h
        · cases h
/-- All signs away, as the program does it. -/
def norm (l : List UInt8) : List UInt8 :=
  match _h : cutM l with
  | none => l
  | some r => norm r
  termination_by l.length
  decreasing_by exact cutM_lt _h
set_option maxRecDepth 20000 in
theorem norm_none {l : List UInt8} (h : cutM l = none) : norm l = l := by
  rw [norm]
  split
  · rfl
  · rename_i r hr; rw [h] at hr; cases hr
set_option maxRecDepth 20000 in
theorem norm_some {l r : List UInt8} (h : cutM l = some r) : norm l = norm r := by
  rw [norm]
  split
  · rename_i hr; rw [h] at hr; cases hr
  · rename_i r2 hr; rw [h] at hr; obtain rfl := Option.some.inj hr; rfl
set_option maxRecDepth 20000 in
theorem mark_split {p : List UInt8} (hp : IsMark p) : ∃ p0, p = p0 ++ [58] := by
  rcases hp.it with rfl | rfl | rfl
  · exact ⟨[114, 101], rfl⟩
  · exact ⟨[102, 119], rfl⟩
  · exact ⟨[102, 119, 100], rfl⟩
set_option maxRecDepth 20000 in
theorem tr_mark {p : List UInt8} (hp : IsMark p) (x : List UInt8) : tr (p ++ x) = p ++ tr x := by
  obtain ⟨p0, rfl⟩ := mark_split hp
  rw [List.append_assoc, List.append_assoc]
  exact tr_behind p0 58 (by decide) x
set_option maxRecDepth 20000 in
theorem tl_fwd (m : List UInt8) : tl (m ++ fwd) = tl m ++ fwd := tl_ahead m 40 (by decide) [102, 119, 100, 41]
set_option maxRecDepth 20000 in
/-- A sign at the end does not reach into one at the beginning. -/
theorem mark_fwd {p : List UInt8} (hp : IsMark p) {x : List UInt8} (h : ends (p ++ x) fwd = true) : ∃ m, x = m ++ fwd := by
  obtain ⟨m, h1, -⟩ := ends_is h
  have hl : p.length ≤ m.length ∨ m.length < p.length := by omega
  rcases hl with hl | hl
  · obtain ⟨k, rfl⟩ : ∃ k, m = p ++ k := by
      refine ⟨m.drop p.length, ?_⟩
      have h2 := congrArg (List.take p.length) h1
      rw [List.take_left, List.take_append_of_le_length hl] at h2
      conv => lhs; rw [← List.take_append_drop p.length m, ← h2]
    rw [List.append_assoc] at h1
    exact ⟨k, List.append_cancel_left h1⟩
  · exfalso
    have h2 := congrArg (fun l => l[m.length]?) h1
    change (p ++ x)[m.length]? = (m ++ fwd)[m.length]? at h2
    rw [List.getElem?_append_left hl, List.getElem?_append_right (Nat.le_refl _), Nat.sub_self, show fwd[0]? = some 40 from rfl] at h2
    have h3 : (40 : UInt8) ∈ p := List.mem_of_getElem? h2
    rcases hp.it with rfl | rfl | rfl
    · exact absurd h3 (by decide)
    · exact absurd h3 (by decide)
    · exact absurd h3 (by decide)
set_option maxRecDepth 20000 in
/-- To take a sign off the beginning first gives the same. -/
theorem norm_mark {p : List UInt8} (hp : IsMark p) : ∀ (n : Nat) (x : List UInt8), x.length ≤ n → norm (p ++ x) = norm (tl x) := by
  intro n
  induction n with
  | zero =>
    intro x hx
    obtain rfl : x = [] := List.length_eq_zero_iff.1 (by omega)
    cases h : ends (p ++ []) fwd
    · exact norm_some (cutM_mark hp [] h)
    · obtain ⟨m, hm⟩ := mark_fwd hp h
      have := congrArg List.length hm
      rw [List.length_append] at this
      simp [fwd] at this
  | succ n ih =>
    intro x hx
    cases h : ends (p ++ x) fwd
    · exact norm_some (cutM_mark hp x h)
    · obtain ⟨m, rfl⟩ := mark_fwd hp h
      rw [← List.append_assoc, norm_some (cutM_fwd (p ++ m)), tr_mark hp, tl_fwd, norm_some (cutM_fwd (tl m)), ← tl_tr]
      refine ih (tr m) ?_
      have := tr_le m
      rw [List.length_append, show fwd.length = 5 from rfl] at hx
      omega
/-- No blank at either end. -/
structure Clean (l : List UInt8) : Prop where
  left : tl l = l
  right : tr l = l
set_option maxRecDepth 20000 in
theorem Clean.fwd {m : List UInt8} (h : Clean (m ++ fwd)) : tl m = m := by
  have := h.left
  rw [tl_fwd] at this
  exact List.append_cancel_right this
set_option maxRecDepth 20000 in
theorem Clean.mark {p x : List UInt8} (hp : IsMark p) (h : Clean (p ++ x)) : tr x = x := by
  have := h.right
  rw [tr_mark hp] at this
  exact List.append_cancel_left this
def trim (l : List UInt8) : List UInt8 := tr (tl l)
set_option maxRecDepth 20000 in
theorem trim_clean (l : List UInt8) : Clean (trim l) := by
  refine ⟨?_, tr_tr _⟩
  unfold trim
  rw [tl_tr, tl_tl]
/-- The specification's round. -/
def r1 (l : List UInt8) : List UInt8 := if ends l fwd then trim (l.take (l.length - 5)) else l
def r2 (l : List UInt8) : List UInt8 := if begins l re || begins l fw then trim (l.drop 3) else l
def r3 (l : List UInt8) : List UInt8 := if begins l fw2 then trim (l.drop 4) else l
set_option maxRecDepth 20000 in
theorem r1_clean {l : List UInt8} (h : Clean l) : Clean (r1 l) := by
  unfold r1; split
  · exact trim_clean _
  · exact h
set_option maxRecDepth 20000 in
theorem r2_clean {l : List UInt8} (h : Clean l) : Clean (r2 l) := by
  unfold r2; split
  · exact trim_clean _
  · exact h
set_option maxRecDepth 20000 in
theorem r3_clean {l : List UInt8} (h : Clean l) : Clean (r3 l) := by
  unfold r3; split
  · exact trim_clean _
  · exact h
set_option maxRecDepth 20000 in
theorem norm_r1 {l : List UInt8} (h : Clean l) : norm (r1 l) = norm l := by
  unfold r1; split
  · rename_i he
    obtain ⟨m, rfl, h2⟩ := ends_is he
    rw [h2, norm_some (cutM_fwd m)]
    unfold trim
    rw [h.fwd]
  · rfl
set_option maxRecDepth 20000 in
theorem norm_at {p l : List UInt8} (hp : IsMark p) (hb : begins l p = true) (h : Clean l) : norm (trim (l.drop p.length)) = norm l := by
  have e := begins_is hb
  generalize l.drop p.length = x at e
  subst e
  rw [norm_mark hp x.length x (Nat.le_refl _)]
  unfold trim
  rw [← tl_tr, h.mark hp]
set_option maxRecDepth 20000 in
theorem norm_r2 {l : List UInt8} (h : Clean l) : norm (r2 l) = norm l := by
  unfold r2; split
  · rename_i he
    rcases Bool.or_eq_true_iff.1 he with hb | hb
    · exact norm_at (p := re) ⟨.inl rfl⟩ hb h
    · exact norm_at (p := fw) ⟨.inr (.inl rfl)⟩ hb h
  · rfl
set_option maxRecDepth 20000 in
theorem norm_r3 {l : List UInt8} (h : Clean l) : norm (r3 l) = norm l := by
  unfold r3; split
  · exact norm_at (p := fw2) ⟨.inr (.inr rfl)⟩ (by assumption) h
  · rfl
def round (l : List UInt8) : List UInt8 := r3 (r2 (r1 l))
set_option maxRecDepth 20000 in
theorem round_clean {l : List UInt8} (h : Clean l) : Clean (round l) := r3_clean (r2_clean (r1_clean h))
set_option maxRecDepth 20000 in
theorem norm_round {l : List UInt8} (h : Clean l) : norm (round l) = norm l := by
  unfold round
  rw [norm_r3 (r2_clean (r1_clean h)), norm_r2 (r1_clean h), norm_r1 h]
set_option maxRecDepth 20000 in
theorem trim_le (l : List UInt8) : (trim l).length ≤ l.length := Nat.le_trans (tr_le _) (tl_le _)
set_option maxRecDepth 20000 in
theorem trim_lt {l p : List UInt8} (hb : begins l p = true) (h0 : 0 < p.length) : (trim (l.drop p.length)).length < l.length := by
  have := trim_le (l.drop p.length)
  have h2 := congrArg List.length (begins_is hb)
  rw [List.length_append] at h2
  omega
set_option maxRecDepth 20000 in
theorem r1_le (l : List UInt8) : (r1 l).length < l.length ∨ r1 l = l ∧ ends l fwd = false := by
  unfold r1; split
  · rename_i he
    obtain ⟨m, rfl, h2⟩ := ends_is he
    rw [h2]
    have := trim_le m
    left
    rw [List.length_append, show fwd.length = 5 from rfl]; omega
  · exact .inr ⟨rfl, Bool.eq_false_iff.2 (by assumption)⟩
set_option maxRecDepth 20000 in
theorem r2_le (l : List UInt8) : (r2 l).length < l.length ∨ r2 l = l ∧ begins l re = false ∧ begins l fw = false := by
  unfold r2; split
  · rename_i he
    left
    rcases Bool.or_eq_true_iff.1 he with hb | hb
    · exact trim_lt (p := re) hb (by decide)
    · exact trim_lt (p := fw) hb (by decide)
  · rename_i he; exact .inr ⟨rfl, by simpa using he⟩
set_option maxRecDepth 20000 in
theorem r3_le (l : List UInt8) : (r3 l).length < l.length ∨ r3 l = l ∧ begins l fw2 = false := by
  unfold r3; split
  · exact .inl (trim_lt (p := fw2) (by assumption) (by decide))
  · exact .inr ⟨rfl, Bool.eq_false_iff.2 (by assumption)⟩
set_option maxRecDepth 20000 in
theorem round_le (l : List UInt8) : (round l).length ≤ l.length := by
  unfold round
  have h1 : (r1 l).length ≤ l.length := by rcases r1_le l with h | ⟨h, -⟩ <;> first | omega | (rw [h]; exact Nat.le_refl _)
  have h2 : (r2 (r1 l)).length ≤ (r1 l).length := by rcases r2_le (r1 l) with h | ⟨h, -⟩ <;> first | omega | (rw [h]; exact Nat.le_refl _)
  have h3 : (r3 (r2 (r1 l))).length ≤ (r2 (r1 l)).length := by rcases r3_le (r2 (r1 l)) with h | ⟨h, -⟩ <;> first | omega | (rw [h]; exact Nat.le_refl _)
  omega
set_option maxRecDepth 20000 in
/-- Where a round takes nothing, all signs are away. -/
theorem round_same {l : List UInt8} (h : (round l).length = l.length) : round l = l ∧ norm l = l := by
  unfold round at h ⊢
  have h1 : (r1 l).length ≤ l.length := by rcases r1_le l with h | ⟨h, -⟩ <;> first | omega | (rw [h]; exact Nat.le_refl _)
  have h2 : (r2 (r1 l)).length ≤ (r1 l).length := by rcases r2_le (r1 l) with h | ⟨h, -⟩ <;> first | omega | (rw [h]; exact Nat.le_refl _)
  have h3 : (r3 (r2 (r1 l))).length ≤ (r2 (r1 l)).length := by rcases r3_le (r2 (r1 l)) with h | ⟨h, -⟩ <;> first | omega | (rw [h]; exact Nat.le_refl _)
  rcases r1_le l with a | ⟨a, a2⟩
  · omega
  rw [a] at h h2 h3 ⊢
  rcases r2_le l with b | ⟨b, b2, b3⟩
  · omega
  rw [b] at h h3 ⊢
  rcases r3_le l with c | ⟨c, c2⟩
  · omega
  refine ⟨c, norm_none ?_⟩
  unfold cutM
  rw [a2, b2, b3, c2]
  rfl
/-- The parts between blanks. -/
def fl : List UInt8 → List UInt8 → List (List UInt8)
  | cur, [] => if cur.isEmpty then [] else [cur]
  | cur, c :: r => if bl c then (if cur.isEmpty then fl [] r else cur :: fl [] r) else fl (cur ++ [c]) r
def join1 : List (List UInt8) → List UInt8
  | [] => []
  | [x] => x
  | x :: y :: r => x ++ 32 :: join1 (y :: r)
/-- The specification's loop. -/
def col (sm : UInt8 → UInt8) : List UInt8 → List UInt8 → List UInt8
  | b, [] => b
  | b, c :: r => if bl c then col sm (if b.isEmpty || b.getLast? == some 32 then b else b ++ [32]) r else col sm (b ++ [sm c]) r
set_option maxRecDepth 20000 in
theorem join1_cons (x : List UInt8) (r : List (List UInt8)) : join1 (x :: r) = x ++ (if r.isEmpty then [] else 32 :: join1 r) := by
  cases r with
  | nil => simp [join1]
  | cons y r => simp [join1]
set_option maxRecDepth 20000 in
theorem ise : ([] : List UInt8).isEmpty = true := rfl
structure Small (sm : UInt8 → UInt8) : Prop where
  sp : sm 32 = 32
  no : ∀ c, bl c = false → bl (sm c) = false
set_option maxRecDepth 20000 in
theorem col_both {sm : UInt8 → UInt8} (hs : Small sm) (t : List UInt8) :
    (tr (col sm [] t) = (join1 (fl [] t)).map sm) ∧
    (∀ B d, bl d = false → tr (col sm (B ++ [d, 32]) t) = B ++ d :: (if (fl [] t).isEmpty then [] else 32 :: (join1 (fl [] t)).map sm)) ∧
    (∀ B cur d, bl d = false → tr (col sm (B ++ (cur ++ [d]).map sm) t) = B ++ (join1 (fl (cur ++ [d]) t)).map sm) := by
  induction t with
  | nil =>
    refine ⟨rfl, fun B d hd => ?_, fun B cur d hd => ?_⟩
    · rw [col, fl, if_pos ise]
      have := tr_behind B d hd [32]
      rw [this]
      rfl
    · rw [col, fl, if_neg (by simp), join1, List.map_append, List.map_singleton, ← List.append_assoc]
      have := tr_behind (B ++ cur.map sm) (sm d) (hs.no d hd) []
      rw [tr_nil] at this
      exact this
  | cons c r ih =>
    obtain ⟨iA, iB, iC⟩ := ih
    by_cases hb : bl c = true
    · refine ⟨?_, fun B d hd => ?_, fun B cur d hd => ?_⟩
      · rw [col, if_pos hb, fl, if_pos hb, if_pos ise, if_pos (by simp)]
        exact iA
      · rw [col, if_pos hb, if_pos (by simp), iB B d hd, fl, if_pos hb, if_pos ise]
      · have hne : bl (sm d) = false := hs.no d hd
        have h32 : sm d ≠ 32 := fun e => by rw [e] at hne; cases hne
        rw [col, if_pos hb, if_neg (show ¬ ((B ++ (cur ++ [d]).map sm).isEmpty || (B ++ (cur ++ [d]).map sm).getLast? == some 32) = true from by simp [h32]), fl, if_pos hb, if_neg (show ¬ (cur ++ [d]).isEmpty = true from by simp), join1_cons, List.map_append (f := sm) (l₁ := cur), List.map_singleton, List.append_assoc, List.append_assoc]
        have := iB (B ++ cur.map sm) (sm d) hne
        rw [List.append_assoc] at this
        refine this.trans ?_
        rw [List.append_assoc, List.map_append (l₁ := cur ++ [d]), List.map_append, List.map_singleton, List.append_assoc]
        congr 2
        rw [List.singleton_append]
        congr 1
        split
        · rfl
        · rw [List.map_cons, hs.sp]
    · have hb' : bl c = false := by simpa using hb
      refine ⟨?_, fun B d hd => ?_, fun B cur d hd => ?_⟩
      · rw [col, if_neg hb, fl, if_neg hb]
        exact iC [] [] c hb'
      · rw [col, if_neg hb, fl, if_neg hb]
        have := iC (B ++ [d, 32]) [] c hb'
        refine this.trans ?_
        have hne : (fl ([] ++ [c]) r).isEmpty = false := by
          clear this iA iB iC
          generalize hcur : ([] ++ [c] : List UInt8) = cur
          have hc0 : cur.isEmpty = false := by rw [← hcur]; rfl
          clear hcur
          induction r generalizing cur with
          | nil => rw [fl, hc0]; rfl
          | cons e r ih =>
            rw [fl]
            split
            · rw [hc0]; rfl
            · exact ih _ (by simp)
        rw [if_neg (by rw [hne]; simp)]
        simp
      · rw [col, if_neg hb, fl, if_neg hb]
        have := iC B (cur ++ [d]) c hb'
        rw [List.map_append (l₂ := [c]), List.map_singleton, ← List.append_assoc] at this
        exact this
set_option maxRecDepth 20000 in
/-- The subject's blanks: no blank ahead, so the trim at both ends is the one at the end. -/
theorem col_head {sm : UInt8 → UInt8} (hs : Small sm) (t : List UInt8) : ∀ b : List UInt8, tl b = b → tl (col sm b t) = col sm b t := by
  induction t with
  | nil => intro b h; rw [col]; exact h
  | cons c r ih =>
    intro b h
    have more : ∀ x : UInt8, (b = [] → bl x = false) → tl (b ++ [x]) = b ++ [x] := fun x hx => by
      cases b with
      | nil => rw [List.nil_append, tl_cons, hx rfl]; rfl
      | cons d q =>
        rw [tl_cons] at h
        rw [List.cons_append, tl_cons]
        by_cases hd : bl d = true
        · rw [if_pos hd] at h
          have := tl_le q
          rw [h] at this
          simp at this
          omega
        · rw [if_neg hd]
    rw [col]
    split
    · apply ih
      split
      · exact h
      · rename_i hn
        refine more 32 fun e => ?_
        rw [e] at hn
        exact absurd rfl hn
    · rename_i hb
      exact ih _ (more _ fun _ => hs.no c (by simpa using hb))
set_option maxRecDepth 20000 in
theorem trim_col {sm : UInt8 → UInt8} (hs : Small sm) (t : List UInt8) : trim (col sm [] t) = (join1 (fl [] t)).map sm := by
  unfold trim
  rw [col_head hs t [] rfl]
  exact (col_both hs t).1
end Sj
end Go.Proofs.YtajkahpkbeobaaaGreatDoor
namespace Go.Proofs.YtajkahpkbeobaaaGreatDoor
open Go.RowKit Go.Lib
namespace Pl
def endB (l : List UInt8) : List UInt8 := (l.reverse.dropWhile blank).reverse
def trimB (l : List UInt8) : List UInt8 := endB (l.dropWhile blank)
set_option maxRecDepth 20000 in
theorem tail_list (t : ByteArray) : (t.extract 1 t.size).data.toList = t.data.toList.drop 1 := by
  rw [ext_data, List.take_of_length_le (by simp)]
set_option maxRecDepth 20000 in
theorem drop_head (t : ByteArray) (h : 0 < t.size) (hb : blank t[0] = true) : (t.data.toList.drop 1).dropWhile blank = t.data.toList.dropWhile blank := by
  obtain ⟨⟨l⟩⟩ := t
  match l, h, hb with
  | c :: r, _, hb =>
    show r.dropWhile blank = (c :: r).dropWhile blank
    rw [List.dropWhile_cons, if_pos (show blank c = true from hb)]
set_option maxRecDepth 20000 in
theorem keep_head (t : ByteArray) (h : 0 < t.size) (hb : blank t[0] = false) : t.data.toList.dropWhile blank = t.data.toList := by
  obtain ⟨⟨l⟩⟩ := t
  match l, h, hb with
  | c :: r, _, hb =>
    show (c :: r).dropWhile blank = c :: r
    rw [List.dropWhile_cons, if_neg (by rw [show blank c = false from hb]; simp)]
set_option maxRecDepth 20000 in
theorem snoc_list (t : ByteArray) (h : 0 < t.size) : t.data.toList = (t.extract 0 (t.size - 1)).data.toList ++ [t[t.size - 1]] := by
  rw [ext_data, List.drop_zero, Nat.sub_zero]
  have hl : t.data.toList.length = t.size := len_list t
  have e : t.data.toList = t.data.toList.take (t.size - 1) ++ t.data.toList.drop (t.size - 1) := (List.take_append_drop _ _).symm
  have d : t.data.toList.drop (t.size - 1) = [t[t.size - 1]] := by
    rw [List.drop_eq_getElem_cons (by omega), List.drop_eq_nil_of_le (by omega)]
    rfl
  rw [d] at e
  exact e
set_option maxRecDepth 20000 in
theorem drop_last (t : ByteArray) (h : 0 < t.size) (hb : blank (t[t.size - 1]) = true) : endB (t.extract 0 (t.size - 1)).data.toList = endB t.data.toList := by
  conv => rhs; rw [snoc_list t h]
  unfold endB
  rw [List.reverse_append, List.reverse_singleton, List.singleton_append, List.dropWhile_cons, if_pos hb]
set_option maxRecDepth 20000 in
theorem keep_last (t : ByteArray) (h : 0 < t.size) (hb : blank (t[t.size - 1]) = false) : endB t.data.toList = t.data.toList := by
  have e := snoc_list t h
  unfold endB
  rw [e, List.reverse_append, List.reverse_singleton, List.singleton_append, List.dropWhile_cons, if_neg (by rw [hb]; simp), List.reverse_cons, List.reverse_reverse]
set_option maxRecDepth 20000 in
theorem endB_nil (t : ByteArray) (h : ¬ 0 < t.size) : endB t.data.toList = t.data.toList := by
  have : t.data.toList = [] := List.length_eq_zero_iff.1 (by rw [len_list]; omega)
  rw [this]; rfl
set_option maxRecDepth 20000 in
theorem dropW_nil (t : ByteArray) (h : ¬ 0 < t.size) : t.data.toList.dropWhile blank = t.data.toList := by
  have : t.data.toList = [] := List.length_eq_zero_iff.1 (by rw [len_list]; omega)
  rw [this]; rfl
set_option maxRecDepth 20000 in
theorem mk_list (t : ByteArray) (R : List UInt8) (h : t.data.toList = R) : t = ⟨R.toArray⟩ := by
  rw [← h]
end Pl
set_option maxRecDepth 20000 in
set_option maxHeartbeats 2000000 in
theorem specTrimB (s : ByteArray) (w : World) (_hs : s.size ≤ 1100000) :
    Calls Tryz.prog 13 #[.string s] w fun e w' => e = .returned (.string ⟨(Pl.trimB s.data.toList).toArray⟩) ∧ w = w' := by
  obtain ⟨R, hR⟩ : ∃ R, Pl.trimB s.data.toList = R := ⟨_, rfl⟩
  have HR : Hid (Pl.endB (s.data.toList.dropWhile Pl.blank) = R) := hR
  rw [hR]
  clear hR
  go_enter Tryz.func13, Tryz.ntmps13
  go_wp2
  go_loopw [0] (fun x wr => ∃ t : ByteArray, t.size ≤ s.size ∧ x = .string t ∧ Hid (t.data.toList.dropWhile Pl.blank = s.data.toList.dropWhile Pl.blank) ∧ wr = w) (fun x _ => match x with | .string t => t.size | _ => 0)
  case atStart => exact ⟨s, Nat.le_refl _, rfl, rfl, rfl⟩
  case round =>
    obtain ⟨t, ht, rfl, hp, rfl⟩ := hrel
    by_cases h0 : 0 < t.size
    · have h8 : t[0].toNat < 256 := UInt8.toNat_lt _
      have hc := fun w => specBlank t[0] w
      cases hb : Pl.blank t[0] <;> simp only [hb] at hc
      · have HE : Hid (Pl.endB t.data.toList = R) := by
          show _ = _
          rw [← HR.out, ← hp.out, Pl.keep_head t h0 hb]
        clear hb
        go_wp2_with fail
        refine (hc _).mono ?_
        rintro e w2 ⟨rfl, rfl⟩
        go_wp2
        go_loopw [0] (fun x wx => ∃ t : ByteArray, t.size ≤ s.size ∧ x = .string t ∧ Hid (Pl.endB t.data.toList = R) ∧ wx = wr) (fun x _ => match x with | .string t => t.size | _ => 0)
        case atStart => exact ⟨t, ht, rfl, HE, rfl⟩
        case round =>
          clear hp ht
          obtain ⟨t, ht, rfl, hp, rfl⟩ := hrel
          by_cases h0 : 0 < t.size
          · have h8 : t[t.size - 1].toNat < 256 := UInt8.toNat_lt _
            have hc := fun w => specBlank t[t.size - 1] w
            cases hb : Pl.blank t[t.size - 1] <;> simp only [hb] at hc
            · have Hb : Hid (t = ⟨R.toArray⟩) := Pl.mk_list t R (by rw [← hp.out, Pl.keep_last t h0 hb])
              clear hb hp
              go_wp2_with fail
              refine (hc _).mono ?_
              rintro e w2 ⟨rfl, rfl⟩
              go_wp2
              go_ret
              exact ⟨by rw [← Hb.out]; rfl, rfl⟩
            · have Hb : Hid (Pl.endB (t.extract 0 (t.size - 1)).data.toList = R) := by
                show _ = _
                rw [Pl.drop_last t h0 hb]; exact hp.out
              clear hb hp
              go_wp2_with fail
              refine (hc _).mono ?_
              rintro e w2 ⟨rfl, rfl⟩
              go_wp2
              go_roundw
              case rel => exact ⟨_, by simp; omega, rfl, Hb, trivial⟩
              case measure => simp; omega
          · have Hb : Hid (t = ⟨R.toArray⟩) := Pl.mk_list t R (by rw [← hp.out, Pl.endB_nil t h0])
            clear hp
            go_wp2
            go_ret
            exact ⟨by rw [← Hb.out]; rfl, rfl⟩
      · have Hb : Hid ((t.extract 1 t.size).data.toList.dropWhile Pl.blank = s.data.toList.dropWhile Pl.blank) := by
          show _ = _
          rw [Pl.tail_list, Pl.drop_head t h0 hb]; exact hp.out
        clear hb hp
        go_wp2_with fail
        refine (hc _).mono ?_
        rintro e w2 ⟨rfl, rfl⟩
        go_wp2
        go_roundw
        case rel => exact ⟨_, by simp; omega, rfl, Hb, trivial⟩
        case measure => simp; omega
    · have HE : Hid (Pl.endB t.data.toList = R) := by
        show _ = _
        rw [← HR.out, ← hp.out, Pl.dropW_nil t h0]
      go_wp2
      go_loopw [0] (fun x wx => ∃ t : ByteArray, t.size ≤ s.size ∧ x = .string t ∧ Hid (Pl.endB t.data.toList = R) ∧ wx = wr) (fun x _ => match x with | .string t => t.size | _ => 0)
      case atStart => exact ⟨t, ht, rfl, HE, rfl⟩
      case round =>
        clear hp ht
        obtain ⟨t, ht, rfl, hp, rfl⟩ := hrel
        by_cases h0 : 0 < t.size
        · have h8 : t[t.size - 1].toNat < 256 := UInt8.toNat_lt _
          have hc := fun w => specBlank t[t.size - 1] w
          cases hb : Pl.blank t[t.size - 1] <;> simp only [hb] at hc
          · have Hb : Hid (t = ⟨R.toArray⟩) := Pl.mk_list t R (by rw [← hp.out, Pl.keep_last t h0 hb])
            clear hb hp
            go_wp2_with fail
            refine (hc _).mono ?_
            rintro e w2 ⟨rfl, rfl⟩
            go_wp2
            go_ret
            exact ⟨by rw [← Hb.out]; rfl, rfl⟩
          · have Hb : Hid (Pl.endB (t.extract 0 (t.size - 1)).data.toList = R) := by
              show _ = _
              rw [Pl.drop_last t h0 hb]; exact hp.out
            clear hb hp
            go_wp2_with fail
            refine (hc _).mono ?_
            rintro e w2 ⟨rfl, rfl⟩
            go_wp2
            go_roundw
            case rel => exact ⟨_, by simp; omega, rfl, Hb, trivial⟩
            case measure => simp; omega
        · have Hb : Hid (t = ⟨R.toArray⟩) := Pl.mk_list t R (by rw [← hp.out, Pl.endB_nil t h0])
          clear hp
          go_wp2
          go_ret
          exact ⟨by rw [← Hb.out]; rfl, rfl⟩
end Go.Proofs.YtajkahpkbeobaaaGreatDoor
namespace Go.Proofs.YtajkahpkbeobaaaGreatDoor
open Go.RowKit Go.Lib Go.Maps
namespace Cu
def cut (d : UInt8) : List UInt8 → List UInt8 → List (List UInt8)
  | acc, [] => [acc]
  | acc, c :: r => if c = d then acc :: cut d [] r else cut d (acc ++ [c]) r
def mk (l : List UInt8) : ByteArray := ⟨l.toArray⟩
set_option maxRecDepth 20000 in
theorem cut_len (d : UInt8) : ∀ (l acc : List UInt8), (cut d acc l).length ≤ l.length + 1
  | [], _ => by simp [cut]
  | c :: r, acc => by
    rw [cut]
    split
    · have := cut_len d r []
      simp only [List.length_cons]
      omega
    · have := cut_len d r (acc ++ [c])
      simp only [List.length_cons]
      omega
set_option maxRecDepth 20000 in
theorem cut_ne (d : UInt8) : ∀ (l acc : List UInt8), cut d acc l ≠ []
  | [], _ => by simp [cut]
  | c :: r, acc => by
    rw [cut]
    split
    · simp
    · exact cut_ne d r _
set_option maxRecDepth 20000 in
theorem cut_mem (d : UInt8) : ∀ (l acc p : List UInt8), p ∈ cut d acc l → p.length ≤ acc.length + l.length
  | [], acc, p, h => by
    rw [cut, List.mem_singleton] at h
    rw [h]
    simp
  | c :: r, acc, p, h => by
    rw [cut] at h
    split at h
    · rcases List.mem_cons.1 h with h | h
      · rw [h]; simp
      · have := cut_mem d r [] p h
        simp only [List.length_cons, List.length_nil] at this ⊢
        omega
    · have := cut_mem d r _ p h
      simp only [List.length_cons, List.length_append, List.length_nil] at this ⊢
      omega
set_option maxRecDepth 20000 in
theorem ex_mk (s : ByteArray) (a b : Nat) : s.extract a b = mk ((s.data.toList.drop a).take (b - a)) := by
  unfold mk
  apply ByteArray.ext
  apply Array.toList_inj.1
  rw [ByteArray.data_extract, Array.toList_extract, List.extract_eq_take_drop]
def digit (c : UInt8) : Bool := decide (48 ≤ c.toNat) && decide (c.toNat ≤ 57)
def val : Nat → List UInt8 → Nat
  | n, [] => n
  | n, c :: r => val (n * 10 + (c.toNat - 48)) r
def numI (l : List UInt8) : Int := if l.all digit then (val 0 l : Nat) else -1
def num10 (l : List UInt8) : Int := if l.length = 0 ∨ 10 < l.length then -1 else numI l
set_option maxRecDepth 20000 in
theorem val_lt : ∀ (l : List UInt8) (n : Nat), l.all digit = true → val n l < (n + 1) * 10 ^ l.length
  | [], n, _ => by
    show n < (n + 1) * 10 ^ 0
    omega
  | c :: r, n, h => by
    rw [List.all_cons, Bool.and_eq_true] at h
    obtain ⟨h1, h2⟩ := h
    unfold digit at h1
    simp only [Bool.and_eq_true, decide_eq_true_eq] at h1
    have := val_lt r (n * 10 + (c.toNat - 48)) h2
    show val (n * 10 + (c.toNat - 48)) r < (n + 1) * 10 ^ (r.length + 1)
    rw [Nat.pow_succ]
    refine Nat.lt_of_lt_of_le this ?_
    rw [Nat.mul_comm (10 ^ r.length) 10, ← Nat.mul_assoc]
    exact Nat.mul_le_mul_right _ (by omega)
end Cu
set_option maxRecDepth 20000 in
set_option maxHeartbeats 4000000 in
theorem specCut (s : ByteArray) (d : UInt8) (w : World) (hs : s.size ≤ 900000) :
    Calls Tryz.prog 57 #[.string s, .int .u8 (d.toNat : Int)] w fun e w' => ∃ y : Value, e = .returned y ∧ Hid (OwnX w.heap.size y ((Cu.cut d [] s.data.toList).map Cu.mk) w') ∧ Below w.heap.size w w' := by
  have hll : Hid (s.data.toList.length = s.size) := by simp [Hid]
  have hd8 : d.toNat < 256 := UInt8.toNat_lt _
  obtain ⟨W, hW⟩ : ∃ W, W = w.alloc (.cells #[] 9) := ⟨_, rfl⟩
  have hbW : Hid (Below w.heap.size w W) := by rw [hW]; exact (Below.refl _ _).alloc (Nat.le_refl _) _
  have hown0 : Hid (OwnX w.heap.size (.slice (some ⟨w.heap.size, 0, none⟩) 0 0) [] W) := by rw [hW]; exact OwnX.made _ w (Nat.le_refl _)
  have hWs : W.heap.size = w.heap.size + 1 := by rw [hW]; simp
  have HW := mkHid hW
  clear hW
  obtain ⟨P, hP⟩ : ∃ P, (Cu.cut d [] s.data.toList).map Cu.mk = P := ⟨_, rfl⟩
  rw [hP]
  have HP : Hid ([] ++ (Cu.cut d ((s.data.toList.drop 0).take (0 - 0)) (s.data.toList.drop 0)).map Cu.mk = P) := hP
  clear hP
  go_enter Tryz.func57, Tryz.ntmps57
  go_wp2
  rw [← HW.out]
  clear HW
  go_loopw [5, 6, 7] (fun yv fv iv wr => ∃ (i f : Nat) (C : List ByteArray), i ≤ s.size ∧ f ≤ i ∧ iv = .int .i64 i ∧ fv = .int .i64 f ∧ C.length ≤ i ∧ Hid (C ++ (Cu.cut d ((s.data.toList.drop f).take (i - f)) (s.data.toList.drop i)).map Cu.mk = P) ∧ Hid (OwnX w.heap.size yv C wr) ∧ Hid (Below w.heap.size w wr) ∧ w.heap.size ≤ wr.heap.size) (fun _ _ iv _ => s.size - (Lib.intOf iv).toNat)
  case atStart => exact ⟨0, 0, [], Nat.zero_le _, Nat.le_refl _, rfl, rfl, Nat.le_refl _, HP, hown0, hbW, by omega⟩
  case round =>
    clear HP hown0 hbW
    obtain ⟨i, f, C, hi, hfi, rfl, rfl, hCl, hz, hown, hB, hsz⟩ := hrel
    by_cases hlt : i < s.size
    · have hli : i < s.data.toList.length := by rw [hll.out]; exact hlt
      have hst := hz.out
      rw [List.drop_eq_getElem_cons hli, Cu.cut, show s.data.toList[i]'hli = s[i] from rfl] at hst
      have h8 : s[i].toNat < 256 := UInt8.toNat_lt _
      by_cases hc : s[i] = d
      · have hb3 : (s[i].toNat == d.toNat) = true := by rw [hc]; simp
        have hb : ((s[i].toNat : Int) == (d.toNat : Int)) = true := by rw [hc]; simp
        rw [if_pos hc, List.map_cons] at hst
        have hpc : Cu.mk ((s.data.toList.drop f).take (i - f)) = s.extract f i := (Cu.ex_mk s f i).symm
        rw [hpc] at hst
        obtain ⟨pc, hpce⟩ : ∃ pc, s.extract f i = pc := ⟨_, rfl⟩
        have hst2 : Hid ((C ++ [pc]) ++ (Cu.cut d ((s.data.toList.drop (i + 1)).take (i + 1 - (i + 1))) (s.data.toList.drop (i + 1))).map Cu.mk = P) := by
          show _ = _
          rw [Nat.sub_self, List.take_zero, List.append_assoc, ← hpce]
          exact hst
        have hnb : Hid (∀ k, u5.ownBlock = some k → w.heap.size ≤ k) := fun k hk => (World.ownsRow.lt hown.out k hk).1
        have hfI : (0 : Int) ≤ (f : Int) ∧ (f : Int) ≤ (i : Int) ∧ (i : Int) ≤ (s.size : Int) := ⟨by omega, by omega, by omega⟩
        clear hst hz hpc hc
        go_wp2_with (first | (at_builtin; (refine wp_appX rfl _ _ rfl w.heap.size u5 C rfl hown.out pc 1 (by rfl) (by omega) hsz ?_; intro y5 w6 hown5 hg5; refine Hid.out ?_)) | fail)
        have hB6 : Hid (Below w.heap.size w w6) := (hB.out.alloc (by omega) (.cells #[.string pc] 9)).grown hg5 (by simp; omega) (fun k hk => hnb.out k hk)
        replace hown5 := mkHid hown5
        have hs6 : w.heap.size ≤ w6.heap.size := hB6.out.size
        clear hg5 hnb hown hB hpce
        refine mkHid ?_
        go_wp2
        go_roundw
        case rel => exact ⟨i + 1, i + 1, C ++ [pc], by omega, Nat.le_refl _, by go_num, by go_num, by simp; omega, hst2, hown5, hB6, hs6⟩
        case measure => simp [Lib.intOf]; omega
      · have hb2 : ¬ s[i].toNat = d.toNat := fun e => hc (UInt8.toNat_inj.1 e)
        have hb3 : (s[i].toNat == d.toNat) = false := by simpa using hb2
        have hb4 : ¬ ((s[i].toNat : Int) = (d.toNat : Int)) := by omega
        have hb : ((s[i].toNat : Int) == (d.toNat : Int)) = false := by
          rw [beq_eq_false_iff_ne]
          intro e
          exact hc (UInt8.toNat_inj.1 (by omega))
        rw [if_neg hc] at hst
        have hst2 : Hid (C ++ (Cu.cut d ((s.data.toList.drop f).take (i + 1 - f)) (s.data.toList.drop (i + 1))).map Cu.mk = P) := by
          show _ = _
          rw [← hst]
          congr 3
          rw [show i + 1 - f = (i - f) + 1 by omega, List.take_succ_eq_append_getElem (by rw [List.length_drop, hll.out]; omega), List.getElem_drop]
          congr 2
          have : f + (i - f) = i := by omega
          simp only [this]
          rfl
        clear hst hz hc
        go_wp2
        go_roundw
        case rel => exact ⟨i + 1, f, C, by omega, by omega, by go_num, rfl, by omega, hst2, hown, hB, hsz⟩
        case measure => simp [Lib.intOf]; omega
    · have hst := hz.out
      rw [show s.data.toList.drop i = [] from List.drop_eq_nil_of_le (by rw [hll.out]; omega), Cu.cut, List.map_cons, List.map_nil] at hst
      have hie : i = s.size := by omega
      have hpc : Cu.mk ((s.data.toList.drop f).take (i - f)) = s.extract f i := (Cu.ex_mk s f i).symm
      rw [hpc] at hst
      have hst2 : Hid (C ++ [s.extract f s.size] = P) := by show _ = _; rw [← hst, hie]
      have hnb : Hid (∀ k, u5.ownBlock = some k → w.heap.size ≤ k) := fun k hk => (World.ownsRow.lt hown.out k hk).1
      have hCl2 : C.length ≤ s.size := by omega
      have hff : f ≤ s.size := by omega
      have hfI : (0 : Int) ≤ (f : Int) ∧ (f : Int) ≤ (s.size : Int) := ⟨by omega, by omega⟩
      clear hst hz hpc hie
      go_wp2_with (first | (at_builtin; (refine wp_appX rfl _ _ rfl w.heap.size u5 C rfl hown.out (s.extract f s.size) 1 (by rfl) (by omega) hsz ?_; intro y5 w6 hown5 hg5; refine Hid.out ?_)) | fail)
      rw [hst2.out] at hown5
      have hB6 : Hid (Below w.heap.size w w6) := (hB.out.alloc (by omega) (.cells #[.string (s.extract f s.size)] 9)).grown hg5 (by simp; omega) (fun k hk => hnb.out k hk)
      replace hown5 := mkHid hown5
      clear hg5 hnb hown hB
      refine mkHid ?_
      go_wp2
      go_ret
      exact ⟨_, rfl, hown5, hB6.out⟩
end Go.Proofs.YtajkahpkbeobaaaGreatDoor
