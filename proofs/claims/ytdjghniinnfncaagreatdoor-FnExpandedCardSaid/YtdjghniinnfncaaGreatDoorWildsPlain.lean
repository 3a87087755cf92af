
/- Patterns with stars and points: plain. -/

/- Drawn patterns and what is told of them: plain. -/
import Derived.Test.YtdjghniinnfncaaGreatDoorKyDom
namespace Go.Proofs.YtdjghniinnfncaaGreatDoor
namespace Wi
/-- A pattern taken apart: -1 any bytes, -2 one byte, else a byte. -/
def items : List UInt8 → List Int
  | [] => []
  | c :: r => if c = 42 then -1 :: items r else if c = 63 then -2 :: items r else if c = 92 then (match r with | [] => [92] | d :: r' => ((small d).toNat : Int) :: items r') else ((small c).toNat : Int) :: items r
set_option maxRecDepth 20000 in
theorem items_cons (c : UInt8) (r : List UInt8) : items (c :: r) = if c = 42 then -1 :: items r else if c = 63 then -2 :: items r else if c = 92 then (match r with | [] => [92] | d :: r' => ((small d).toNat : Int) :: items r') else ((small c).toNat : Int) :: items r := by
  rw [items.eq_def]
set_option maxRecDepth 20000 in
theorem items_len (p : List UInt8) : (items p).length ≤ p.length := by
  match p with
  | [] => simp [items]
  | c :: r =>
    have := items_len r
    unfold items
    split
    · simpa using this
    · split
      · simpa using this
      · split
        · match r with
          | [] => simp
          | d :: r' => have := items_len r'; simp; omega
        · simpa using this
set_option maxRecDepth 20000 in
theorem small_pos (c : UInt8) : (0 : Int) ≤ ((small c).toNat : Int) := by omega
set_option maxRecDepth 20000 in
theorem items_star (p : List UInt8) (k : Nat) (h : k < p.length) (hc : p[k] = 42) : items (p.drop k) = -1 :: items (p.drop (k + 1)) := by
  rw [List.drop_eq_getElem_cons h, hc, items_cons, if_pos rfl]
set_option maxRecDepth 20000 in
theorem items_any (p : List UInt8) (k : Nat) (h : k < p.length) (hc : p[k] = 63) : items (p.drop k) = -2 :: items (p.drop (k + 1)) := by
  rw [List.drop_eq_getElem_cons h, hc, items_cons, if_neg (by decide), if_pos rfl]
set_option maxRecDepth 20000 in
theorem items_esc (p : List UInt8) (k : Nat) (h : k + 1 < p.length) (hc : p[k] = 92) : items (p.drop k) = ((small p[k + 1]).toNat : Int) :: items (p.drop (k + 2)) := by
  rw [List.drop_eq_getElem_cons (by omega), hc, List.drop_eq_getElem_cons h]; rfl
set_option maxRecDepth 20000 in
theorem items_last (p : List UInt8) (k : Nat) (h : k < p.length) (h1 : p.length ≤ k + 1) (hc : p[k] = 92) : items (p.drop k) = ((small p[k]).toNat : Int) :: items (p.drop (k + 1)) := by
  rw [List.drop_eq_getElem_cons h, hc, List.drop_eq_nil_of_le h1]; rfl
set_option maxRecDepth 20000 in
theorem items_byte (p : List UInt8) (k : Nat) (h : k < p.length) (h1 : p[k] ≠ 42) (h2 : p[k] ≠ 63) (h3 : p[k] ≠ 92) : items (p.drop k) = ((small p[k]).toNat : Int) :: items (p.drop (k + 1)) := by
  rw [List.drop_eq_getElem_cons h, items_cons, if_neg h1, if_neg h2, if_neg h3]
set_option maxRecDepth 20000 in
theorem small_small (c : UInt8) : small (small c) = small c := by
  have h8 := UInt8.toNat_lt c
  by_cases h : 65 ≤ c.toNat ∧ c.toNat ≤ 90
  · have := small_yes c h
    exact small_no _ (by omega)
  · rw [small_no c h, small_no c h]
set_option maxRecDepth 20000 in
theorem small_eq (c d : UInt8) (hd : ¬ (65 ≤ d.toNat ∧ d.toNat ≤ 90)) (hd2 : ¬ (97 ≤ d.toNat ∧ d.toNat ≤ 122)) : small c = d ↔ c = d := by
  by_cases h : 65 ≤ c.toNat ∧ c.toNat ≤ 90
  · have := small_yes c h
    constructor
    · intro e; rw [e] at this; omega
    · intro e; subst e; exact absurd h hd
  · rw [small_no c h]
set_option maxRecDepth 20000 in
theorem items_lower (p : List UInt8) : items (lower p) = items p := by
  match p with
  | [] => rfl
  | c :: r =>
    have ih := items_lower r
    have e : lower (c :: r) = small c :: lower r := rfl
    rw [e]
    unfold items
    have e1 := small_eq c 42 (by decide) (by decide)
    have e2 := small_eq c 63 (by decide) (by decide)
    have e3 := small_eq c 92 (by decide) (by decide)
    simp only [e1, e2, e3]
    split
    · rw [ih]
    · split
      · rw [ih]
      · split
        · match r with
          | [] => rfl
          | d :: r' =>
            have ih' := items_lower r'
            show ((small (small d)).toNat : Int) :: items (lower r') = _
            rw [small_small, ih']
        · rw [small_small, ih]
set_option maxRecDepth 20000 in
theorem items_ge (p : List UInt8) : ∀ x ∈ items p, -2 ≤ x ∧ x < 256 := by
  match p with
  | [] => intro x h; simp [items] at h
  | c :: r =>
    have ih := items_ge r
    intro x h
    have hb : ∀ d : UInt8, -2 ≤ ((small d).toNat : Int) ∧ ((small d).toNat : Int) < 256 := fun d => by have := UInt8.toNat_lt (small d); omega
    unfold items at h
    split at h
    · rcases List.mem_cons.1 h with rfl | h
      · omega
      · exact ih x h
    · split at h
      · rcases List.mem_cons.1 h with rfl | h
        · omega
        · exact ih x h
      · split at h
        · match r, h with
          | [], h => simp at h; omega
          | d :: r', h =>
            rcases List.mem_cons.1 h with rfl | h
            · exact hb d
            · exact items_ge r' x h
        · rcases List.mem_cons.1 h with rfl | h
          · exact hb c
          · exact ih x h

def anyFrom (f : List UInt8 → Bool) : List UInt8 → Bool
  | [] => f []
  | c :: t => f (c :: t) || anyFrom f t
def ok (x : Int) (c : UInt8) : Bool := x == -2 || x == (c.toNat : Int)
/-- Whether items fit a text (of small letters). -/
def fits : List Int → List UInt8 → Bool
  | [] => fun t => t.isEmpty
  | x :: p => fun t => if x = -1 then anyFrom (fits p) t else match t with | [] => false | c :: t' => ok x c && fits p t'
set_option maxRecDepth 20000 in
theorem fits_star (x : Int) (p : List Int) (t : List UInt8) (h : x = -1) : fits (x :: p) t = anyFrom (fits p) t := by
  subst h; rfl
set_option maxRecDepth 20000 in
theorem fits_one (x : Int) (p : List Int) (c : UInt8) (t : List UInt8) (h : x ≠ -1) : fits (x :: p) (c :: t) = (ok x c && fits p t) := by
  show (if x = -1 then _ else _) = _
  rw [if_neg h]
set_option maxRecDepth 20000 in
theorem fits_none (x : Int) (p : List Int) (h : x ≠ -1) : fits (x :: p) [] = false := by
  show (if x = -1 then _ else _) = _
  rw [if_neg h]
def F (P : List Int) (L : List UInt8) (i j : Nat) : Bool := fits (P.drop i) (L.drop j)
set_option maxRecDepth 20000 in
theorem F_end (P : List Int) (L : List UInt8) (i j : Nat) (h : P.length ≤ i) : F P L i j = decide (L.length ≤ j) := by
  rw [F, List.drop_eq_nil_of_le h, fits]
  by_cases hj : L.length ≤ j
  · rw [List.drop_eq_nil_of_le hj]; simp [hj]
  · rw [List.drop_eq_getElem_cons (by omega)]; simp [hj]
set_option maxRecDepth 20000 in
theorem F_star (P : List Int) (L : List UInt8) (i j : Nat) (h : i < P.length) (hs : P[i] = -1) (hj : j < L.length) : F P L i j = (F P L (i + 1) j || F P L i (j + 1)) := by
  rw [F, List.drop_eq_getElem_cons h, fits_star _ _ _ hs, F, F, List.drop_eq_getElem_cons h, fits_star _ _ _ hs, List.drop_eq_getElem_cons hj, anyFrom]
set_option maxRecDepth 20000 in
theorem F_star_end (P : List Int) (L : List UInt8) (i j : Nat) (h : i < P.length) (hs : P[i] = -1) (hj : L.length ≤ j) : F P L i j = F P L (i + 1) j := by
  rw [F, List.drop_eq_getElem_cons h, fits_star _ _ _ hs, F, List.drop_eq_nil_of_le hj, anyFrom]
set_option maxRecDepth 20000 in
theorem F_one (P : List Int) (L : List UInt8) (i j : Nat) (h : i < P.length) (hs : P[i] ≠ -1) (hj : j < L.length) : F P L i j = (ok P[i] L[j] && F P L (i + 1) (j + 1)) := by
  rw [F, List.drop_eq_getElem_cons h, List.drop_eq_getElem_cons hj, fits_one _ _ _ _ hs, F]
set_option maxRecDepth 20000 in
theorem F_one_end (P : List Int) (L : List UInt8) (i j : Nat) (h : i < P.length) (hs : P[i] ≠ -1) (hj : L.length ≤ j) : F P L i j = false := by
  rw [F, List.drop_eq_getElem_cons h, List.drop_eq_nil_of_le hj, fits_none _ _ hs]
set_option maxRecDepth 20000 in
theorem F_one_fwd (P : List Int) (L : List UInt8) (i j : Nat) (h : i < P.length) (hs : P[i] ≠ -1) (hF : F P L i j = true) : ∃ hj : j < L.length, ok P[i] L[j] = true ∧ F P L (i + 1) (j + 1) = true := by
  by_cases hj : j < L.length
  · rw [F_one P L i j h hs hj, Bool.and_eq_true] at hF
    exact ⟨hj, hF⟩
  · rw [F_one_end P L i j h hs (by omega)] at hF; cases hF
set_option maxRecDepth 20000 in
theorem F_star_fwd (P : List Int) (L : List UInt8) (i j : Nat) (h : i < P.length) (hs : P[i] = -1) (hj : j ≤ L.length) (hF : F P L i j = true) : ∃ k, j ≤ k ∧ k ≤ L.length ∧ F P L (i + 1) k = true := by
  by_cases hj' : j < L.length
  · rw [F_star P L i j h hs hj', Bool.or_eq_true] at hF
    rcases hF with hF | hF
    · exact ⟨j, Nat.le_refl _, hj, hF⟩
    · obtain ⟨k, h1, h2, h3⟩ := F_star_fwd P L i (j + 1) h hs (by omega) hF
      exact ⟨k, by omega, h2, h3⟩
  · rw [F_star_end P L i j h hs (by omega)] at hF
    exact ⟨j, Nat.le_refl _, hj, hF⟩
  termination_by L.length - j
set_option maxRecDepth 20000 in
theorem F_star_left (P : List Int) (L : List UInt8) (i j k : Nat) (h : i < P.length) (hs : P[i] = -1) (hjk : j ≤ k) (hk : k ≤ L.length) (hF : F P L i k = true) : F P L i j = true := by
  by_cases e : j = k
  · subst e; exact hF
  · rw [F_star P L i j h hs (by omega), F_star_left P L i (j + 1) k h hs (by omega) hk hF, Bool.or_true]
  termination_by k - j
set_option maxRecDepth 20000 in
theorem F_star_back (P : List Int) (L : List UInt8) (i j k : Nat) (h : i < P.length) (hs : P[i] = -1) (hjk : j ≤ k) (hk : k ≤ L.length) (hF : F P L (i + 1) k = true) : F P L i j = true := by
  refine F_star_left P L i j k h hs hjk hk ?_
  by_cases e : k < L.length
  · rw [F_star P L i k h hs e, hF, Bool.true_or]
  · rw [F_star_end P L i k h hs (by omega), hF]

def srch (f : Nat → Bool) : Nat → Nat → Nat
  | 0, k => k
  | n + 1, k => if f k then k else srch f n (k + 1)
set_option maxRecDepth 20000 in
theorem srch_eq (f : Nat → Bool) (n k0 k : Nat) (h0 : k0 ≤ k) (hf : f k = true) (hno : ∀ j, k0 ≤ j → j < k → f j = false) (hn : k - k0 < n) : srch f n k0 = k := by
  induction n generalizing k0 with
  | zero => omega
  | succ n ih =>
    unfold srch
    by_cases e : k0 = k
    · subst e; rw [if_pos hf]
    · rw [hno k0 (Nat.le_refl _) (by omega)]
      exact ih (k0 + 1) (by omega) (fun j h1 h2 => hno j (by omega) h2) (by omega)
set_option maxRecDepth 20000 in
/-- The first place from k0 on. -/
theorem first_of (f : Nat → Bool) (n k0 k : Nat) (h0 : k0 ≤ k) (hf : f k = true) (hn : k - k0 < n) : k0 ≤ srch f n k0 ∧ srch f n k0 ≤ k ∧ f (srch f n k0) = true := by
  induction n generalizing k0 with
  | zero => omega
  | succ n ih =>
    unfold srch
    by_cases e : f k0 = true
    · rw [if_pos e]; exact ⟨Nat.le_refl _, h0, e⟩
    · rw [if_neg e]
      have hne : k0 ≠ k := fun h => e (h ▸ hf)
      obtain ⟨h1, h2, h3⟩ := ih (k0 + 1) (by omega) (by omega)
      exact ⟨by omega, h2, h3⟩
def pos (P : List Int) (L : List UInt8) : Nat → Nat
  | 0 => 0
  | i + 1 => if P[i]? = some (-1) then srch (F P L (i + 1)) (L.length + 1) (pos P L i) else pos P L i + 1
set_option maxRecDepth 20000 in
theorem pos_star (P : List Int) (L : List UInt8) (i : Nat) (h : i < P.length) (hs : P[i] = -1) : pos P L (i + 1) = srch (F P L (i + 1)) (L.length + 1) (pos P L i) := by
  rw [pos, if_pos (by rw [List.getElem?_eq_getElem h, hs])]
set_option maxRecDepth 20000 in
theorem pos_one (P : List Int) (L : List UInt8) (i : Nat) (h : i < P.length) (hs : P[i] ≠ -1) : pos P L (i + 1) = pos P L i + 1 := by
  rw [pos, if_neg (by rw [List.getElem?_eq_getElem h]; simpa using hs)]
set_option maxRecDepth 20000 in
/-- The places of a pattern that fits. -/
theorem pos_F (P : List Int) (L : List UInt8) (hF : F P L 0 0 = true) (i : Nat) (h : i ≤ P.length) : pos P L i ≤ L.length ∧ F P L i (pos P L i) = true := by
  induction i with
  | zero => exact ⟨Nat.zero_le _, hF⟩
  | succ i ih =>
    obtain ⟨h1, h2⟩ := ih (by omega)
    by_cases hs : P[i] = -1
    · obtain ⟨k, hk1, hk2, hk3⟩ := F_star_fwd P L i _ (by omega) hs h1 h2
      obtain ⟨e1, e2, e3⟩ := first_of (F P L (i + 1)) (L.length + 1) (pos P L i) k hk1 hk3 (by omega)
      rw [pos_star P L i (by omega) hs]
      exact ⟨by omega, e3⟩
    · obtain ⟨hj, -, h3⟩ := F_one_fwd P L i _ (by omega) hs h2
      rw [pos_one P L i (by omega) hs]
      exact ⟨by omega, h3⟩
set_option maxRecDepth 20000 in
theorem pos_mono (P : List Int) (L : List UInt8) (hF : F P L 0 0 = true) (i : Nat) (h : i < P.length) : pos P L i ≤ pos P L (i + 1) := by
  obtain ⟨h1, h2⟩ := pos_F P L hF i (by omega)
  by_cases hs : P[i] = -1
  · obtain ⟨k, hk1, hk2, hk3⟩ := F_star_fwd P L i _ (by omega) hs h1 h2
    obtain ⟨e1, e2, e3⟩ := first_of (F P L (i + 1)) (L.length + 1) (pos P L i) k hk1 hk3 (by omega)
    rw [pos_star P L i (by omega) hs]
    exact e1
  · rw [pos_one P L i (by omega) hs]; omega

/-- What is known where the greedy search stands: x pieces are laid up to the place a; q stands behind the last star. -/
structure Inv (P : List Int) (L : List UInt8) (B : Nat → Nat) (x a q : Nat) : Prop where
  hq : q ≤ x
  hx : x ≤ P.length
  ha : a ≤ L.length
  hB : B x = a
  seg : ∀ i, q ≤ i → i ≤ x → B i = B q + (i - q)
  one : ∀ i (h : i < P.length), q ≤ i → i < x → P[i] ≠ -1 ∧ ∃ hj : B i < L.length, ok P[i] L[B i] = true
  zero : q = 0 → B 0 = 0
  star : ∀ h : q - 1 < P.length, 0 < q → P[q - 1] = -1
  back : 0 < q → B (q - 1) ≤ B q ∧ ∀ b, B (q - 1) ≤ b → b ≤ L.length → F P L q b = true → F P L 0 0 = true
  same : F P L 0 0 = true → (∀ i, i < q → B i = pos P L i) ∧ B q ≤ pos P L q
set_option maxRecDepth 20000 in
theorem Inv.start (P : List Int) (L : List UInt8) (B : Nat → Nat) (h : B 0 = 0) : Inv P L B 0 0 0 := by
  refine ⟨Nat.le_refl _, Nat.zero_le _, Nat.zero_le _, h, ?_, fun i h h1 h2 => by omega, fun _ => h, fun _ h => by omega, fun h => by omega, fun _ => ⟨fun i h => by omega, by rw [h]; exact Nat.zero_le _⟩⟩
  intro i h1 h2
  obtain rfl : i = 0 := by omega
  rfl
set_option maxRecDepth 20000 in
theorem Inv.bq {P : List Int} {L : List UInt8} {B : Nat → Nat} {x a q : Nat} (v : Inv P L B x a q) : B q + (x - q) = a := by rw [← v.seg x v.hq (Nat.le_refl _), v.hB]
set_option maxRecDepth 20000 in
/-- From the segment's first piece to where the search stands, and back. -/
theorem Inv.fwd {P : List Int} {L : List UInt8} {B : Nat → Nat} {x a q : Nat} (v : Inv P L B x a q) (b i : Nat) (hF : F P L q b = true) (h1 : q ≤ i) (h2 : i ≤ x) : F P L i (b + (i - q)) = true ∧ (0 < i → pos P L q = b → pos P L i = b + (i - q)) := by
  induction i with
  | zero => obtain rfl : q = 0 := by omega
            exact ⟨by simpa using hF, fun h => by omega⟩
  | succ i ih =>
    by_cases e : q = i + 1
    · subst e; exact ⟨by simpa using hF, fun _ h => by simpa using h⟩
    · obtain ⟨h3, h4⟩ := ih (by omega) (by omega)
      have hP : i < P.length := by have := v.hx; omega
      have hs := (v.one i hP (by omega) (by omega)).1
      obtain ⟨hj, -, h5⟩ := F_one_fwd P L i _ hP hs h3
      refine ⟨by rw [show b + (i + 1 - q) = b + (i - q) + 1 by omega]; exact h5, fun _ hp => ?_⟩
      rw [pos_one P L i hP hs]
      by_cases e0 : i = 0
      · subst e0
        obtain rfl : q = 0 := by omega
        rw [← hp]
      · rw [h4 (by omega) hp]; omega
set_option maxRecDepth 20000 in
theorem Inv.bwd {P : List Int} {L : List UInt8} {B : Nat → Nat} {x a q : Nat} (v : Inv P L B x a q) (hF : F P L x a = true) : F P L q (B q) = true := by
  have key : ∀ d, d ≤ x - q → F P L (x - d) (B (x - d)) = true := by
    intro d
    induction d with
    | zero => intro _; rw [Nat.sub_zero, v.hB]; exact hF
    | succ d ih =>
      intro hd
      have h1 := ih (by omega)
      have hP : x - (d + 1) < P.length := by have := v.hx; omega
      obtain ⟨hs, hj, hok⟩ := v.one (x - (d + 1)) hP (by omega) (by omega)
      rw [F_one P L _ _ hP hs hj, hok, Bool.true_and]
      have e1 := v.seg (x - (d + 1)) (by omega) (by omega)
      have e2 := v.seg (x - d) (by omega) (by omega)
      rw [show B (x - (d + 1)) + 1 = B (x - d) by omega, show x - (d + 1) + 1 = x - d by omega]
      exact h1
  have := key (x - q) (Nat.le_refl _)
  rwa [show x - (x - q) = q by have := v.hq; omega] at this
set_option maxRecDepth 20000 in
theorem Inv.all {P : List Int} {L : List UInt8} {B : Nat → Nat} {x a q : Nat} (v : Inv P L B x a q) (hF : F P L x a = true) : F P L 0 0 = true := by
  have h := v.bwd hF
  by_cases e : q = 0
  · subst e; rw [v.zero rfl] at h; exact h
  · obtain ⟨h1, h2⟩ := v.back (by omega)
    exact h2 _ h1 (by have := v.bq; have := v.ha; omega) h
set_option maxRecDepth 20000 in
/-- Where the segment fits at its place, this is the place. -/
theorem Inv.posq {P : List Int} {L : List UInt8} {B : Nat → Nat} {x a q : Nat} (v : Inv P L B x a q) (hF : F P L q (B q) = true) (h0 : F P L 0 0 = true) : pos P L q = B q := by
  obtain ⟨h1, h2⟩ := v.same h0
  by_cases e : q = 0
  · subst e; rw [v.zero rfl]; rfl
  · obtain ⟨h3, -⟩ := v.back (by omega)
    have hP : q - 1 < P.length := by have := v.hx; have := v.hq; omega
    have hs := v.star hP (by omega)
    have e1 := h1 (q - 1) (by omega)
    have e2 := pos_star P L (q - 1) hP hs
    rw [show q - 1 + 1 = q by omega] at e2
    have hb := v.bq
    have ha := v.ha
    obtain ⟨e3, e4, e5⟩ := first_of (F P L q) (L.length + 1) (pos P L (q - 1)) (B q) (by omega) hF (by omega)
    rw [← e2] at e4
    omega
set_option maxRecDepth 20000 in
theorem Inv.places {P : List Int} {L : List UInt8} {B : Nat → Nat} {x a q : Nat} (v : Inv P L B x a q) (hF : F P L q (B q) = true) (h0 : F P L 0 0 = true) (i : Nat) (h : i ≤ x) : B i = pos P L i := by
  have hp := v.posq hF h0
  by_cases hi : i < q
  · exact (v.same h0).1 i hi
  · by_cases e : i = 0
    · subst e
      obtain rfl : q = 0 := by omega
      rw [v.zero rfl]; rfl
    · rw [(v.fwd (B q) i hF (by omega) h).2 (by omega) hp]
      exact v.seg i (by omega) h
def upd (B : Nat → Nat) (i a : Nat) : Nat → Nat := fun j => if j = i then a else B j
set_option maxRecDepth 20000 in
theorem upd_at (B : Nat → Nat) (i a : Nat) : upd B i a i = a := by simp [upd]
set_option maxRecDepth 20000 in
theorem upd_ne (B : Nat → Nat) (i a j : Nat) (h : j ≠ i) : upd B i a j = B j := by simp [upd, h]
set_option maxRecDepth 20000 in
/-- Another star. -/
theorem Inv.onStar {P : List Int} {L : List UInt8} {B : Nat → Nat} {x a q : Nat} (v : Inv P L B x a q) (h : x < P.length) (hs : P[x] = -1) : Inv P L (upd B (x + 1) a) (x + 1) a (x + 1) := by
  have hB := v.hB
  refine ⟨Nat.le_refl _, h, v.ha, upd_at _ _ _, ?_, fun i _ h1 h2 => by omega, fun h => by omega, ?_, ?_, ?_⟩
  · intro i h1 h2
    obtain rfl : i = x + 1 := by omega
    simp
  · intro _ _
    simpa using hs
  · intro _
    rw [upd_at, show x + 1 - 1 = x by omega, upd_ne _ _ _ _ (by omega), hB]
    refine ⟨Nat.le_refl _, fun b h1 h2 h3 => v.all (F_star_back P L x a b h hs h1 h2 h3)⟩
  · intro h0
    obtain ⟨hb1, hb2⟩ := pos_F P L h0 q (by have := v.hq; omega)
    obtain ⟨hf1, -⟩ := v.fwd _ x hb2 v.hq (Nat.le_refl _)
    have hle := (v.same h0).2
    have hbq := v.bq
    have hlen : pos P L q + (x - q) ≤ L.length := by
      by_cases e : q = x
      · subst e; simpa using hb1
      · have hP : x - 1 < P.length := by omega
        obtain ⟨hf2, -⟩ := v.fwd _ (x - 1) hb2 (by have := v.hq; omega) (by omega)
        obtain ⟨hj, -⟩ := F_one_fwd P L (x - 1) _ hP (v.one (x - 1) hP (by have := v.hq; omega) (by have := v.hq; omega)).1 hf2
        have := v.hq
        omega
    have hFa : F P L x a = true := F_star_left P L x a _ h hs (by omega) hlen hf1
    have hFq := v.bwd hFa
    have hpl := v.places hFq h0
    refine ⟨fun i hi => by rw [upd_ne _ _ _ _ (by omega)]; exact hpl i (by omega), ?_⟩
    rw [upd_at, pos_star P L x h hs, ← hpl x (Nat.le_refl _), hB]
    obtain ⟨k, hk1, hk2, hk3⟩ := F_star_fwd P L x a h hs v.ha hFa
    exact (first_of (F P L (x + 1)) (L.length + 1) a k hk1 hk3 (by omega)).1
set_option maxRecDepth 20000 in
/-- A piece that fits. -/
theorem Inv.onOne {P : List Int} {L : List UInt8} {B : Nat → Nat} {x a q : Nat} (v : Inv P L B x a q) (h : x < P.length) (hs : P[x] ≠ -1) (hj : a < L.length) (hok : ok P[x] L[a] = true) : Inv P L (upd B (x + 1) (a + 1)) (x + 1) (a + 1) q := by
  have hB := v.hB
  have hq := v.hq
  have hbq := v.bq
  have hu : ∀ i, i ≤ x → upd B (x + 1) (a + 1) i = B i := fun i hi => upd_ne _ _ _ _ (by omega)
  refine ⟨by omega, h, hj, upd_at _ _ _, ?_, ?_, fun e => by rw [hu 0 (by omega)]; exact v.zero e, v.star, ?_, ?_⟩
  · intro i h1 h2
    rw [hu q hq]
    by_cases e : i = x + 1
    · subst e; rw [upd_at]; omega
    · rw [hu i (by omega)]; exact v.seg i h1 (by omega)
  · intro i hP h1 h2
    rw [hu i (by omega)]
    by_cases e : i = x
    · subst e; exact ⟨hs, by rw [hB]; exact hj, by simpa [hB] using hok⟩
    · exact v.one i hP h1 (by omega)
  · intro h0
    rw [hu q hq, hu (q - 1) (by omega)]
    exact v.back h0
  · intro h0
    obtain ⟨h1, h2⟩ := v.same h0
    exact ⟨fun i hi => by rw [hu i (by omega)]; exact h1 i hi, by rw [hu q hq]; exact h2⟩
set_option maxRecDepth 20000 in
theorem Inv.noq {P : List Int} {L : List UInt8} {B : Nat → Nat} {x a q : Nat} (v : Inv P L B x a q) (hF : F P L x a = false) : F P L q (B q) = false := by
  cases hc : F P L q (B q) with
  | false => rfl
  | true =>
    have := (v.fwd (B q) x hc v.hq (Nat.le_refl _)).1
    rw [v.bq, hF] at this
    cases this
set_option maxRecDepth 20000 in
/-- The last star takes one more. -/
theorem Inv.onMore {P : List Int} {L : List UInt8} {B : Nat → Nat} {x a q : Nat} (v : Inv P L B x a q) (hF : F P L x a = false) (h0 : 0 < q) (hb : B q < L.length) : Inv P L (upd B q (B q + 1)) q (B q + 1) q := by
  have hq := v.hq
  have hno := v.noq hF
  refine ⟨Nat.le_refl _, by have := v.hx; omega, hb, upd_at _ _ _, ?_, fun i _ h1 h2 => by omega, fun h => by omega, v.star, ?_, ?_⟩
  · intro i h1 h2
    obtain rfl : i = q := by omega
    simp
  · intro h1
    rw [upd_at, upd_ne _ _ _ _ (by omega)]
    obtain ⟨h2, h3⟩ := v.back h1
    exact ⟨by omega, h3⟩
  · intro h1
    obtain ⟨h2, h3⟩ := v.same h1
    refine ⟨fun i hi => by rw [upd_ne _ _ _ _ (by omega)]; exact h2 i hi, ?_⟩
    rw [upd_at]
    have hp := (pos_F P L h1 q (by have := v.hx; omega)).2
    have : pos P L q ≠ B q := fun e => by rw [e, hno] at hp; cases hp
    omega
set_option maxRecDepth 20000 in
theorem Inv.none {P : List Int} {L : List UInt8} {B : Nat → Nat} {x a q : Nat} (v : Inv P L B x a q) (hF : F P L x a = false) (h : q = 0 ∨ L.length ≤ B q) : F P L 0 0 = false := by
  cases hc : F P L 0 0 with
  | false => rfl
  | true =>
    have hno := v.noq hF
    rcases h with e | e
    · subst e; rw [v.zero rfl, hc] at hno; cases hno
    · obtain ⟨h1, h2⟩ := pos_F P L hc q (by have := v.hx; have := v.hq; omega)
      have := (v.same hc).2
      rw [show pos P L q = B q by omega, hno] at h2
      cases h2
set_option maxRecDepth 20000 in
theorem Inv.done {P : List Int} {L : List UInt8} {B : Nat → Nat} {x a q : Nat} (v : Inv P L B x a q) (hx : x = P.length) (ha : a = L.length) : F P L 0 0 = true ∧ ∀ i, i ≤ P.length → B i = pos P L i := by
  have hF : F P L x a = true := by rw [F_end P L x a (by omega)]; simp [ha]
  have h0 := v.all hF
  exact ⟨h0, fun i hi => v.places (v.bwd hF) h0 i (by omega)⟩
/-- How much is left to do. -/
def left (n m x a q : Nat) : Nat := (n + 1 - q) * ((m + 2) * (n + 2)) + (m + 1 - (a - (x - q))) * (n + 2) + (n + 1 - x)
set_option maxRecDepth 20000 in
theorem left_star (n m x a q : Nat) (hq : q ≤ x) (hx : x < n) : left n m (x + 1) a (x + 1) < left n m x a q := by
  unfold left
  have e1 : (n + 1 - (x + 1)) * ((m + 2) * (n + 2)) + (m + 2) * (n + 2) ≤ (n + 1 - q) * ((m + 2) * (n + 2)) := by
    rw [← Nat.succ_mul]
    exact Nat.mul_le_mul_right _ (by omega)
  have e2 : (m + 1 - (a - (x + 1 - (x + 1)))) * (n + 2) ≤ (m + 1) * (n + 2) := Nat.mul_le_mul_right _ (by omega)
  have e3 : (m + 2) * (n + 2) = (m + 1) * (n + 2) + (n + 2) := by rw [← Nat.succ_mul]
  generalize (n + 1 - (x + 1)) * ((m + 2) * (n + 2)) = A at *
  generalize (n + 1 - q) * ((m + 2) * (n + 2)) = A' at *
  generalize (m + 1 - (a - (x + 1 - (x + 1)))) * (n + 2) = C at *
  generalize (m + 1) * (n + 2) = D at *
  omega
set_option maxRecDepth 20000 in
theorem left_one (n m x a q : Nat) (hq : q ≤ x) (hx : x < n) (ha : x - q ≤ a) : left n m (x + 1) (a + 1) q < left n m x a q := by
  unfold left
  rw [show a + 1 - (x + 1 - q) = a - (x - q) by omega]
  omega
set_option maxRecDepth 20000 in
theorem left_more (n m x a q : Nat) (hq : q ≤ x) (hx : x ≤ n) (hb : a - (x - q) < m) : left n m q (a - (x - q) + 1) q < left n m x a q := by
  unfold left
  have e1 : (m + 1 - (a - (x - q) + 1 - (q - q))) * (n + 2) + (n + 2) = (m + 1 - (a - (x - q))) * (n + 2) := by
    rw [← Nat.succ_mul]
    congr 1
    omega
  omega

/-- What the pieces below i fit, told of the stars and points alone. -/
def marksTo (P : List Int) (L : List UInt8) (t : List UInt8) : Nat → List (List UInt8)
  | 0 => []
  | i + 1 => marksTo P L t i ++ (match P[i]? with | some x => (if x < 0 then [(t.drop (pos P L i)).take (pos P L (i + 1) - pos P L i)] else []) | none => [])
set_option maxRecDepth 20000 in
theorem marksTo_wild (P : List Int) (L t : List UInt8) (i : Nat) (h : i < P.length) (hx : P[i] < 0) : marksTo P L t (i + 1) = marksTo P L t i ++ [(t.drop (pos P L i)).take (pos P L (i + 1) - pos P L i)] := by
  rw [marksTo, List.getElem?_eq_getElem h]; simp [hx]
set_option maxRecDepth 20000 in
theorem marksTo_byte (P : List Int) (L t : List UInt8) (i : Nat) (h : i < P.length) (hx : 0 ≤ P[i]) : marksTo P L t (i + 1) = marksTo P L t i := by
  rw [marksTo, List.getElem?_eq_getElem h]; simp; omega
/-- The texts that are told so far. -/
def told (P : List Int) (L t : List UInt8) (i : Nat) : List (List UInt8) := (t :: marksTo P L t i).take 10
set_option maxRecDepth 20000 in
theorem take_one {α : Type} (l : List α) (x : α) (h : (l.take 10).length < 10) : (l ++ [x]).take 10 = l.take 10 ++ [x] := by
  have hl : l.length < 10 := by simp at h; omega
  rw [List.take_of_length_le (by simp; omega), List.take_of_length_le (by omega)]
set_option maxRecDepth 20000 in
theorem take_full {α : Type} (l : List α) (x : α) (h : ¬ (l.take 10).length < 10) : (l ++ [x]).take 10 = l.take 10 := by
  have hl : 10 ≤ l.length := by simp at h; omega
  rw [List.take_append_of_le_length hl]
set_option maxRecDepth 20000 in
theorem told_len (P : List Int) (L t : List UInt8) (i : Nat) : (told P L t i).length ≤ 10 := by unfold told; simp; omega
set_option maxRecDepth 20000 in
theorem told_wild (P : List Int) (L t : List UInt8) (i : Nat) (h : i < P.length) (hx : P[i] < 0) (hl : (told P L t i).length < 10) : told P L t (i + 1) = told P L t i ++ [(t.drop (pos P L i)).take (pos P L (i + 1) - pos P L i)] := by
  unfold told at hl ⊢
  rw [marksTo_wild P L t i h hx, ← List.cons_append, take_one _ _ hl]
set_option maxRecDepth 20000 in
theorem told_full (P : List Int) (L t : List UInt8) (i : Nat) (h : i < P.length) (hl : ¬ (told P L t i).length < 10) : told P L t (i + 1) = told P L t i := by
  unfold told at hl ⊢
  by_cases hx : P[i] < 0
  · rw [marksTo_wild P L t i h hx, ← List.cons_append, take_full _ _ hl]
  · rw [marksTo_byte P L t i h (by omega)]
set_option maxRecDepth 20000 in
theorem told_byte (P : List Int) (L t : List UInt8) (i : Nat) (h : i < P.length) (hx : 0 ≤ P[i]) : told P L t (i + 1) = told P L t i := by
  unfold told
  rw [marksTo_byte P L t i h hx]
/-- What both sides answer. -/
def wild (p t : List UInt8) : List (List UInt8) := if F (items p) (lower t) 0 0 = true then told (items p) (lower t) t (items p).length else []
end Wi
end Go.Proofs.YtdjghniinnfncaaGreatDoor
namespace Go.Proofs.YtdjghniinnfncaaGreatDoor
namespace Wi
/-- A draw below most (at most 200) at a place of a code. -/
def nv (c : List UInt8) (a most : Nat) : Nat := if c.length = 0 then a * 7 % most else ((c.getD (a % c.length) 0).toNat + a / c.length * 37) % most
def K (c : List UInt8) : Nat := if c.length = 0 then 1 else c.length
set_option maxRecDepth 20000 in
theorem nv_on (c : List UInt8) (a : Nat) (h : nv c a 6 = 0) : nv c (a + 2 * K c) 6 ≠ 0 := by
  unfold nv K at *
  by_cases hc : c.length = 0
  · rw [if_pos hc] at h ⊢
    rw [if_pos hc]
    omega
  · rw [if_neg hc] at h ⊢
    rw [if_neg hc, Nat.add_mul_mod_self_right, Nat.add_mul_div_right _ _ (by omega)]
    generalize (c.getD (a % c.length) 0).toNat = x at *
    generalize a / c.length = y at *
    omega
def wt (c : List UInt8) (a : Nat) : Nat := srch (fun j => decide (nv c (a + 2 * j) 6 ≠ 0)) (K c + 1) 0
set_option maxRecDepth 20000 in
theorem wt_has (c : List UInt8) (a : Nat) : wt c a ≤ K c ∧ nv c (a + 2 * wt c a) 6 ≠ 0 := by
  by_cases h : nv c a 6 = 0
  · obtain ⟨-, h2, h3⟩ := first_of (fun j => decide (nv c (a + 2 * j) 6 ≠ 0)) (K c + 1) 0 (K c) (Nat.zero_le _) (by simpa using nv_on c a h) (by omega)
    exact ⟨h2, of_decide_eq_true h3⟩
  · obtain ⟨-, h2, h3⟩ := first_of (fun j => decide (nv c (a + 2 * j) 6 ≠ 0)) (K c + 1) 0 0 (Nat.zero_le _) (by simpa using h) (by omega)
    exact ⟨Nat.le_trans h2 (Nat.zero_le _), of_decide_eq_true h3⟩
set_option maxRecDepth 20000 in
theorem srch_min (f : Nat → Bool) (n k0 j : Nat) (h0 : k0 ≤ j) (h : j < srch f n k0) : f j = false := by
  induction n generalizing k0 with
  | zero => unfold srch at h; omega
  | succ n ih =>
    unfold srch at h
    by_cases e : f k0 = true
    · rw [if_pos e] at h; omega
    · rw [if_neg e] at h
      by_cases hk : j = k0
      · subst hk; simpa using e
      · exact ih (k0 + 1) (by omega) h
set_option maxRecDepth 20000 in
theorem wt_step (c : List UInt8) (a : Nat) (h : nv c a 6 = 0) : wt c a = wt c (a + 2) + 1 := by
  obtain ⟨h1, h2⟩ := wt_has c a
  have hp : 0 < wt c a := by
    rcases Nat.eq_zero_or_pos (wt c a) with e | e
    · rw [e] at h2; exact absurd h h2
    · exact e
  have : wt c (a + 2) = wt c a - 1 := by
    refine srch_eq _ _ _ _ (Nat.zero_le _) ?_ ?_ (by omega)
    · simp only [decide_eq_true_eq]
      rw [show a + 2 + 2 * (wt c a - 1) = a + 2 * wt c a by omega]
      exact h2
    · intro j _ hj
      have := srch_min (fun j => decide (nv c (a + 2 * j) 6 ≠ 0)) (K c + 1) 0 (j + 1) (Nat.zero_le _) (by show j + 1 < wt c a; omega)
      show decide (nv c (a + 2 + 2 * j) 6 ≠ 0) = false
      rw [show a + 2 + 2 * j = a + 2 * (j + 1) by omega]
      exact this
  omega
/-- How much is left of the loop that draws a pattern. -/
def more (c : List UInt8) (m i a : Nat) : Nat := (m - i) * (K c + 1) + wt c a
set_option maxRecDepth 20000 in
theorem more_on (c : List UInt8) (m i a i' a' : Nat) (hi : i < m) (h : i < i') : more c m i' a' + 1 ≤ more c m i a := by
  unfold more
  have h1 := (wt_has c a').1
  have h2 : (m - i') * (K c + 1) + (K c + 1) ≤ (m - i) * (K c + 1) := by
    rw [← Nat.succ_mul]
    exact Nat.mul_le_mul_right _ (by omega)
  generalize (m - i') * (K c + 1) = x at *
  generalize (m - i) * (K c + 1) = y at *
  omega
set_option maxRecDepth 20000 in
theorem more_stay (c : List UInt8) (m i a : Nat) (h : nv c a 6 = 0) : more c m i (a + 2) + 1 = more c m i a := by
  unfold more
  rw [wt_step c a h]
  omega
set_option maxRecDepth 20000 in
theorem K_le (c : List UInt8) (h : c.length ≤ 1048576) : K c ≤ 1048576 := by unfold K; split <;> omega
set_option maxRecDepth 20000 in
theorem more_le (c : List UInt8) (m a : Nat) (h : c.length ≤ 1048576) (hm : m ≤ 40) : more c m 0 a ≤ 45000000 := by
  unfold more
  have h1 := (wt_has c a).1
  have h2 := K_le c h
  have h3 : (m - 0) * (K c + 1) ≤ 40 * 1048577 := Nat.mul_le_mul (by omega) (by omega)
  generalize (m - 0) * (K c + 1) = x at *
  omega

set_option maxRecDepth 20000 in
theorem lower_app (a b : List UInt8) : lower (a ++ b) = lower a ++ lower b := by simp [lower]
set_option maxRecDepth 20000 in
theorem lower_len (a : List UInt8) : (lower a).length = a.length := by simp [lower]
set_option maxRecDepth 20000 in
theorem marks_pre (P : List Int) (L t : List UInt8) (a b : Nat) (h : a ≤ b) : ∃ r, marksTo P L t b = marksTo P L t a ++ r := by
  induction b with
  | zero => obtain rfl : a = 0 := by omega
            exact ⟨[], by simp⟩
  | succ b ih =>
    by_cases e : a = b + 1
    · subst e; exact ⟨[], by simp⟩
    · obtain ⟨r, hr⟩ := ih (by omega)
      rw [marksTo, hr]
      exact ⟨_, by rw [List.append_assoc]⟩
set_option maxRecDepth 20000 in
/-- The mark of a star or point among those that are told. -/
theorem told_get (P : List Int) (L t : List UInt8) (j : Nat) (h : j < P.length) (hx : P[j] < 0) (k : Nat) (hk : k = 1 + (marksTo P L t j).length) (h10 : k < 10) :
    (told P L t P.length)[k]? = some ((t.drop (pos P L j)).take (pos P L (j + 1) - pos P L j)) := by
  obtain ⟨r, hr⟩ := marks_pre P L t (j + 1) P.length (by omega)
  rw [marksTo_wild P L t j h hx] at hr
  unfold told
  rw [hr, List.getElem?_take_of_lt h10, hk, show 1 + (marksTo P L t j).length = (marksTo P L t j).length + 1 from Nat.add_comm _ _, List.getElem?_cons_succ, List.append_assoc, List.getElem?_append_right (Nat.le_refl _), Nat.sub_self]
  rfl
/-- Where the law's loop stands: i bytes of the pattern, j items, k texts that are used, the text so far. -/
structure At (p t : List UInt8) (i j k : Nat) (all : List UInt8) : Prop where
  hi : i ≤ p.length
  hj : j ≤ (items p).length
  rest : (items p).drop j = items (p.drop i)
  hk : k = 1 + (marksTo (items p) (lower t) t j).length
  text : lower all = (lower t).take (pos (items p) (lower t) j)
set_option maxRecDepth 20000 in
theorem At.start (p t : List UInt8) : At p t 0 0 1 [] := ⟨Nat.zero_le _, Nat.zero_le _, rfl, rfl, rfl⟩
set_option maxRecDepth 20000 in
theorem At.len {p t : List UInt8} {i j k : Nat} {all : List UInt8} (h : At p t i j k all) (hF : F (items p) (lower t) 0 0 = true) : all.length = pos (items p) (lower t) j := by
  have := congrArg List.length h.text
  have hp := (pos_F _ _ hF j h.hj).1
  rw [lower_len, List.length_take, lower_len] at this
  rw [lower_len] at hp
  omega
set_option maxRecDepth 20000 in
theorem drop_cons {α : Type} {l r : List α} {j : Nat} {x : α} (h : l.drop j = x :: r) : ∃ hj : j < l.length, l[j] = x ∧ l.drop (j + 1) = r := by
  have hj : j < l.length := by
    by_cases hj : j < l.length
    · exact hj
    · rw [List.drop_eq_nil_of_le (by omega)] at h; cases h
  rw [List.drop_eq_getElem_cons hj] at h
  injection h with h1 h2
  exact ⟨hj, h1, h2⟩
set_option maxRecDepth 20000 in
theorem cat_mark (t all : List UInt8) (a b : Nat) (h : lower all = (lower t).take a) (hab : a ≤ b) : lower (all ++ (t.drop a).take (b - a)) = (lower t).take b := by
  rw [lower_app, h]
  have : lower ((t.drop a).take (b - a)) = ((lower t).drop a).take (b - a) := by simp [lower, List.map_take, List.map_drop]
  rw [this, show b = a + (b - a) by omega, List.take_add, show a + (b - a) - a = b - a by omega]
set_option maxRecDepth 20000 in
theorem At.wild {p t : List UInt8} {i j k : Nat} {all : List UInt8} (h : At p t i j k all) (hF : F (items p) (lower t) 0 0 = true) (hi : i < p.length) (x : Int) (hx : x < 0) (hit : items (p.drop i) = x :: items (p.drop (i + 1))) (h10 : k < 10) :
    ∃ m, (told (items p) (lower t) t (items p).length)[k]? = some m ∧ (x = -2 → m.length = 1) ∧ m.length ≤ t.length ∧ At p t (i + 1) (j + 1) (k + 1) (all ++ m) := by
  obtain ⟨hj, e1, e2⟩ := drop_cons (h.rest.trans hit)
  have hmo := pos_mono _ _ hF j hj
  have hle := (pos_F _ _ hF (j + 1) hj).1
  rw [lower_len] at hle
  refine ⟨_, told_get (items p) (lower t) t j hj (by rw [e1]; exact hx) k h.hk h10, ?_, ?_, by omega, by omega, e2, ?_, cat_mark t all _ _ h.text hmo⟩
  · intro h2
    have := pos_one _ (lower t) j hj (by rw [e1, h2]; decide)
    rw [List.length_take, List.length_drop]
    omega
  · rw [List.length_take, List.length_drop]; omega
  · rw [marksTo_wild _ _ _ _ hj (by rw [e1]; exact hx), List.length_append, h.hk]
    simp
    omega
set_option maxRecDepth 20000 in
theorem At.byte {p t : List UInt8} {i j k : Nat} {all : List UInt8} (h : At p t i j k all) (hF : F (items p) (lower t) 0 0 = true) (i' : Nat) (hi : i' ≤ p.length) (c : UInt8) (hit : items (p.drop i) = ((small c).toNat : Int) :: items (p.drop i')) :
    At p t i' (j + 1) k (all ++ [c]) := by
  obtain ⟨hj, e1, e2⟩ := drop_cons (h.rest.trans hit)
  have hs : (items p)[j] ≠ -1 := by rw [e1]; omega
  obtain ⟨-, hFj⟩ := pos_F _ _ hF j (by omega)
  obtain ⟨hl, hok, -⟩ := F_one_fwd _ _ j _ hj hs hFj
  have hc : (lower t)[pos (items p) (lower t) j] = small c := by
    rw [e1] at hok
    unfold ok at hok
    have h2 : (((small c).toNat : Int) == -2) = false := by simp
    rw [h2, Bool.false_or] at hok
    simp at hok
    exact (UInt8.toNat_inj.1 (by omega)).symm
  refine ⟨hi, by omega, e2, ?_, ?_⟩
  · rw [marksTo_byte _ _ _ _ hj (by rw [e1]; omega)]
    exact h.hk
  · rw [lower_app, h.text, pos_one _ _ _ hj hs, List.take_succ_eq_append_getElem hl, hc]
    rfl
set_option maxRecDepth 20000 in
theorem At.done {p t : List UInt8} {i j k : Nat} {all : List UInt8} (h : At p t i j k all) (hF : F (items p) (lower t) 0 0 = true) (hi : p.length ≤ i) : lower all = lower t := by
  have e := h.rest
  rw [List.drop_eq_nil_of_le hi] at e
  have hj : (items p).length ≤ j := by
    have := congrArg List.length e
    simp [items] at this
    omega
  have hF2 := (pos_F _ _ hF j h.hj).2
  rw [F_end _ _ _ _ hj] at hF2
  rw [h.text, List.take_of_length_le (by simpa using hF2)]
set_option maxRecDepth 20000 in
/-- What stands first is the text. -/
theorem told_zero (P : List Int) (L t : List UInt8) (i : Nat) : (told P L t i)[0]? = some t := by
  unfold told
  rfl
set_option maxRecDepth 20000 in
theorem wild_cases (p t : List UInt8) : (F (items p) (lower t) 0 0 = false ∧ wild p t = []) ∨ (F (items p) (lower t) 0 0 = true ∧ wild p t = told (items p) (lower t) t (items p).length ∧ 0 < (wild p t).length) := by
  unfold wild
  cases h : F (items p) (lower t) 0 0
  · exact .inl ⟨rfl, rfl⟩
  · refine .inr ⟨rfl, rfl, ?_⟩
    rw [if_pos rfl]
    unfold told
    simp
end Wi
end Go.Proofs.YtdjghniinnfncaaGreatDoor
