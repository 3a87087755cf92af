/- Plain mathematics of UnQuoted: the two passes are one pass by lines. -/
import Derived.Test.YtkchnlfedkfpjaaDoorUnTrim
import Derived.Lib.IndexMore
namespace Go.Proofs.YtkchnlfedkfpjaaDoor
namespace Pl
open Go.Lib
def crs : List UInt8 := [13, 10]
theorem cut_rest (l : List UInt8) (h : (cut l crs).2.2 = true) : (cut l crs).2.1.length < l.length := by
  unfold cut at h ⊢
  split at h
  · rename_i h0
    have := index_room l crs h0
    rw [if_pos h0]
    have hc : crs.length = 2 := rfl
    rw [hc] at this
    simp only [List.length_drop, hc]
    omega
  · cases h
theorem cut_fst (l : List UInt8) : (cut l crs).1.length ≤ l.length := by
  unfold cut
  split
  · rw [List.length_take]; omega
  · exact Nat.le_refl _
theorem occ_crlf (l : List UInt8) (k : Nat) : occAt l crs k = crlf l k := by
  unfold occAt crlf crs
  match l.drop k with
  | [] => rfl
  | [a] => simp [List.isPrefixOf]
  | a :: b :: r =>
    rw [Bool.eq_iff_iff]
    simp only [List.isPrefixOf, Bool.and_true, Bool.and_eq_true, beq_iff_eq, List.take_succ_cons, List.take_zero, List.cons.injEq, and_true]
    exact ⟨fun h => ⟨h.1.symm, h.2.symm⟩, fun h => ⟨h.1.symm, h.2.symm⟩⟩
def NoCr (l : List UInt8) (n : Nat) : Prop := ∀ j, j < n → crlf l j = false
/-- A text is a line without a line end, or a line, a line end and the rest. -/
theorem cut_cases (l : List UInt8) : (cut l crs = (l, [], false) ∧ NoCr l l.length) ∨ ∃ i, cut l crs = (l.take i, l.drop (i + 2), true) ∧ NoCr l i ∧ crlf l i = true ∧ i + 2 ≤ l.length := by
  rcases index_spec l crs with ⟨h1, h2⟩ | ⟨i, h1, h2, h3, h4⟩
  · refine .inl ⟨?_, ?_⟩
    · unfold cut; rw [h1, if_neg (by decide)]
    · intro j hj; rw [← occ_crlf]; exact h2 j (by omega)
  · refine .inr ⟨i, ?_, ?_, by rw [← occ_crlf]; exact h3, ?_⟩
    · unfold cut; rw [h1, if_pos (by omega)]; rfl
    · intro j hj; rw [← occ_crlf]; exact h4 j hj
    · rw [occ_crlf] at h3
      obtain ⟨h, -⟩ := (crlf_iff l i).1 h3
      omega
/-- A line without the sign of a soft break, and whether it has one. -/
def soft (t : List UInt8) : Bool := t.getLast? == some 61
def body (t : List UInt8) : List UInt8 := if soft t then t.dropLast else t
theorem soft_lib (t : List UInt8) : hasSuffix t [61] = soft t := by
  unfold hasSuffix soft
  rcases List.eq_nil_or_concat t with rfl | ⟨r, a, rfl⟩
  · rfl
  · rw [Bool.eq_iff_iff]
    simp only [List.concat_eq_append, List.isSuffixOf_iff_suffix, List.getLast?_append, List.getLast?_singleton, beq_iff_eq]
    constructor
    · rintro ⟨x, hx⟩
      have := congrArg List.getLast? hx
      simp at this
      simp [this]
    · intro h
      have : a = 61 := by simpa using h
      subst this
      exact ⟨r, rfl⟩
theorem body_lib (t : List UInt8) : trimSuffix t [61] = body t := by
  unfold trimSuffix body
  rw [soft_lib]
  split
  · rw [List.dropLast_eq_take]; rfl
  · rfl
/-- What UnQuoted takes, line by line. -/
def unqF : Nat → List UInt8 → List UInt8 → Option (List UInt8)
  | 0, _, _ => none
  | f + 1, out, l => match qb out (body (trimR (cut l crs).1)) with
    | none => none
    | some o => if (cut l crs).2.2 then unqF f (o ++ if soft (trimR (cut l crs).1) then [] else crs) (cut l crs).2.1 else some o
theorem unqF_more : ∀ (f : Nat) (out l : List UInt8), l.length < f → unqF (f + 1) out l = unqF f out l
  | 0, _, _, h => by omega
  | f + 1, out, l, h => by
    rw [unqF, unqF]
    cases qb out (body (trimR (cut l crs).1)) with
    | none => rfl
    | some o =>
      dsimp only
      split
      · rename_i hc
        have := cut_rest l hc
        exact unqF_more f _ _ (by omega)
      · rfl
theorem unqF_all (f : Nat) (out l : List UInt8) (h : l.length < f) : unqF f out l = unqF (l.length + 1) out l := by
  induction f with
  | zero => omega
  | succ f ih =>
    by_cases e : l.length = f
    · rw [e]
    · rw [unqF_more f out l (by omega), ih (by omega)]
def unq (out l : List UInt8) : Option (List UInt8) := unqF (l.length + 1) out l
theorem unq_bad {out l : List UInt8} (h : qb out (body (trimR (cut l crs).1)) = none) : unq out l = none := by
  rw [unq, unqF, h]
theorem unq_end {out l o : List UInt8} (h : qb out (body (trimR (cut l crs).1)) = some o) (hc : (cut l crs).2.2 = false) : unq out l = some o := by
  rw [unq, unqF, h]
  dsimp only
  rw [hc]
  rfl
theorem unq_more {out l o : List UInt8} (h : qb out (body (trimR (cut l crs).1)) = some o) (hc : (cut l crs).2.2 = true) : unq out l = unq (o ++ if soft (trimR (cut l crs).1) then [] else crs) (cut l crs).2.1 := by
  have hr := cut_rest l hc
  rw [unq, unqF, h]
  dsimp only
  rw [if_pos hc, unqF_all _ _ _ hr]
  rfl
theorem qb_acc : ∀ (n : Nat) (out l : List UInt8), l.length ≤ n → qb out l = (qb [] l).map (out ++ ·) := by
  intro n
  induction n with
  | zero => intro out l h; obtain rfl := List.length_eq_zero_iff.1 (by omega : l.length = 0); rw [qb, qb]; simp
  | succ n ih =>
    intro out l h
    match l with
    | [] => rw [qb, qb]; simp
    | c :: r =>
      rw [qb, qb]
      simp at h
      split
      · cases hex2 r with
        | none => rfl
        | some m =>
          dsimp only
          rw [ih (out ++ _) _ (by simp; omega), ih ([] ++ _) _ (by simp; omega)]
          cases qb [] (r.drop 2) <;> simp
      · rw [ih (out ++ _) _ (by omega), ih ([] ++ _) _ (by omega)]
        cases qb [] r <;> simp
/-- The second pass of the specification. -/
def p2 (out l : List UInt8) : Option (List UInt8) :=
  match l with
  | [] => some out
  | c :: r => if c = 61 then (if r = [] ∨ crlf r 0 = true then p2 out (r.drop 2) else match hex2 r with | some n => p2 (out ++ [UInt8.ofNat n]) (r.drop 2) | none => none) else p2 (out ++ [c]) r
  termination_by l.length
  decreasing_by all_goals (simp; try omega)
theorem crlf_at0 (r : List UInt8) : crlf r 0 = true ↔ ∃ x, r = 13 :: 10 :: x := by
  unfold crlf
  match r with
  | [] => simp
  | [a] => simp
  | a :: b :: x => simp
theorem hexV_13 : hexV 13 = none := by decide
theorem hexV_61 : hexV 61 = none := by decide
theorem hex2_13 (a : UInt8) (x : List UInt8) : hex2 (a :: 13 :: x) = none := by
  simp only [hex2, hexNum, hexV_13]
  split <;> rfl
theorem hex2_61 (a : UInt8) (x : List UInt8) : hex2 (a :: 61 :: x) = none := by
  simp only [hex2, hexNum, hexV_61]
  split <;> rfl
theorem hex2_two (a b : UInt8) (x y : List UInt8) : hex2 (a :: b :: x) = hex2 (a :: b :: y) := rfl
theorem soft_cons (c : UInt8) (t : List UInt8) (h : t ≠ []) : soft (c :: t) = soft t := by
  unfold soft
  rw [List.getLast?_cons]
  cases t with
  | nil => exact absurd rfl h
  | cons a b => simp [List.getLast?_cons]
theorem body_cons (c : UInt8) (t : List UInt8) (h : t ≠ []) : body (c :: t) = c :: body t := by
  unfold body
  rw [soft_cons c t h]
  split
  · rw [List.dropLast_cons_of_ne_nil h]
  · rfl
/-- A line of the second pass, whatever begins with a line end behind it. -/
theorem p2_line : ∀ (n : Nat) (t R out : List UInt8), t.length ≤ n → NoCr t t.length → (R = [] ∨ ∃ x, R = 13 :: 10 :: x) →
    p2 out (t ++ R) = match qb out (body t) with | none => none | some o => if soft t then p2 o (R.drop 2) else p2 o R := by
  intro n
  induction n with
  | zero =>
    intro t R out h hN hR
    obtain rfl := List.length_eq_zero_iff.1 (by omega : t.length = 0)
    rw [show body [] = [] from rfl, qb]
    rfl
  | succ n ih =>
    intro t R out h hN hR
    match t with
    | [] => rw [show body [] = [] from rfl, qb]; rfl
    | c :: t' =>
      simp at h
      have hN' : NoCr t' t'.length := fun j hj => by have := hN (j + 1) (by simp; omega); simpa [crlf] using this
      by_cases hc : c = 61
      · subst hc
        rw [List.cons_append, p2, if_pos rfl]
        match t' with
        | [] =>
          rw [List.nil_append, if_pos (by rcases hR with rfl | ⟨x, rfl⟩ <;> simp [crlf]), show body [61] = [] from rfl, qb]
          rfl
        | [a] =>
          have hb : ∃ y, body [61, a] = 61 :: y ∧ y.length < 2 := by
            unfold body
            split
            · exact ⟨[], rfl, by simp⟩
            · exact ⟨[a], rfl, by simp⟩
          obtain ⟨y, hy, hyl⟩ := hb
          rw [hy, qb, if_pos rfl, hex2_short hyl]
          have hno : ¬ ([a] ++ R = [] ∨ crlf ([a] ++ R) 0 = true) := by
            rintro (h1 | h1)
            · cases h1
            · obtain ⟨x, hx⟩ := (crlf_at0 _).1 h1
              rcases hR with rfl | ⟨x', rfl⟩
              · simp at hx
              · simp at hx
          rw [if_neg hno]
          rcases hR with rfl | ⟨x', rfl⟩
          · rfl
          · rw [show [a] ++ 13 :: 10 :: x' = a :: 13 :: 10 :: x' from rfl, hex2_13]
        | a :: b :: t'' =>
          have hno : ¬ (a :: b :: t'' ++ R = [] ∨ crlf (a :: b :: t'' ++ R) 0 = true) := by
            rintro (h1 | h1)
            · cases h1
            · obtain ⟨x, hx⟩ := (crlf_at0 _).1 h1
              simp only [List.cons_append, List.cons.injEq] at hx
              have := hN' 0 (by simp)
              rw [Bool.eq_false_iff] at this
              exact this ((crlf_at0 _).2 ⟨t'', by rw [hx.1, hx.2.1]⟩)
          rw [if_neg hno]
          rw [body_cons 61 _ (by simp), qb, if_pos rfl]
          by_cases hb : b = 61
          · subst hb
            rw [List.cons_append, List.cons_append, hex2_61]
            have : hex2 (body (a :: 61 :: t'')) = none := by
              rw [body_cons a _ (by simp)]
              match t'' with
              | [] => rfl
              | d :: e => rw [body_cons 61 _ (by simp), hex2_61]
            rw [this]
          · have hbd : body (a :: b :: t'') = a :: b :: body t'' := by
              match t'' with
              | [] =>
                unfold body soft
                simp [hb]
              | d :: e => rw [body_cons a _ (by simp), body_cons b _ (by simp)]
            have hsf : soft (61 :: a :: b :: t'') = soft t'' := by
              match t'' with
              | [] => simp [soft, hb]
              | d :: e => rw [soft_cons _ _ (by simp), soft_cons _ _ (by simp), soft_cons _ _ (by simp)]
            rw [hbd, hsf, List.cons_append, List.cons_append, hex2_two a b (t'' ++ R) (body t'')]
            cases hex2 (a :: b :: body t'') with
            | none => rfl
            | some m =>
              dsimp only
              simp at h
              have hN'' : NoCr t'' t''.length := fun j hj => by have := hN' (j + 2) (by simp; omega); simpa [crlf] using this
              exact ih t'' R _ (by omega) hN'' hR
      · rw [List.cons_append, p2, if_neg hc, ih t' R _ (by omega) hN' hR]
        match t' with
        | [] => rw [show body [] = [] from rfl, show body [c] = [c] from by simp [body, soft, hc], qb, qb, if_neg hc, qb]; simp [soft, hc]
        | d :: e => rw [body_cons c _ (by simp), soft_cons c _ (by simp), qb, if_neg hc]
/-- The first pass of the specification. -/
def p1 (t l : List UInt8) : List UInt8 :=
  match l with
  | [] => trimR t
  | c :: r => if crlf (c :: r) 0 = true then p1 (trimR t ++ crs) (r.drop 1) else p1 (t ++ [c]) r
  termination_by l.length
  decreasing_by all_goals (simp; try omega)
theorem getD_left (t x : List UInt8) (k : Nat) (h : k < t.length) : (t ++ x).getD k 0 = t.getD k 0 := by
  simp [List.getD_eq_getElem?_getD, List.getElem?_append_left h]
theorem getD_right (t x : List UInt8) (k : Nat) (h : t.length ≤ k) : (t ++ x).getD k 0 = x.getD (k - t.length) 0 := by
  simp [List.getD_eq_getElem?_getD, List.getElem?_append_right h]
/-- No blank at its end. -/
def Ok (t : List UInt8) : Prop := t = [] ∨ bl (t.getD (t.length - 1) 0) = false
theorem tk_app {t : List UInt8} (h : Ok t) (x : List UInt8) : ∀ k, k ≤ x.length → tk (t ++ x) (t.length + k) = t.length + tk x k
  | 0, _ => by
    rcases h with rfl | h
    · rfl
    · cases t with
      | nil => rfl
      | cons a r =>
        have e : ((a :: r) ++ x).getD r.length 0 = (a :: r).getD ((a :: r).length - 1) 0 := by
          rw [getD_left _ _ _ (by simp)]; rfl
        show tk ((a :: r) ++ x) (r.length + 1) = _
        unfold tk
        rw [e, h]
        simp
  | k + 1, hk => by
    rw [show t.length + (k + 1) = (t.length + k) + 1 by omega, tk, tk, getD_right _ _ _ (by omega), show t.length + k - t.length = k by omega, tk_app h x k (by omega)]
    split
    · rfl
    · omega
theorem trimR_app {t : List UInt8} (h : Ok t) (x : List UInt8) : trimR (t ++ x) = t ++ trimR x := by
  unfold trimR
  rw [List.length_append, tk_app h x x.length (Nat.le_refl _), List.take_length_add_append]
theorem ok_crs (t : List UInt8) : Ok (t ++ crs) := by
  right
  rw [show (t ++ crs).length - 1 = t.length + 1 by simp [crs], getD_right _ _ _ (by omega)]
  simp [crs, bl]
theorem p1_take : ∀ (i : Nat) (t l : List UInt8), NoCr l i → i ≤ l.length → p1 t l = p1 (t ++ l.take i) (l.drop i)
  | 0, t, l, _, _ => by simp
  | i + 1, t, [], _, h => by simp at h
  | i + 1, t, c :: r, hN, h => by
    have h0 := hN 0 (by omega)
    rw [p1, if_neg (by rw [h0]; simp), p1_take i (t ++ [c]) r (fun j hj => by have := hN (j + 1) (by omega); simpa [crlf] using this) (by simpa using h)]
    simp
theorem p1_end (t l : List UInt8) (h : crlf l 0 = true) : p1 t l = p1 (trimR t ++ crs) (l.drop 2) := by
  obtain ⟨x, rfl⟩ := (crlf_at0 l).1 h
  rw [p1, if_pos h]
  rfl
theorem p1_nil (t : List UInt8) : p1 t [] = trimR t := by rw [p1]
theorem p1_app : ∀ (n : Nat) (l t : List UInt8), l.length ≤ n → Ok t → p1 t l = t ++ p1 [] l := by
  intro n
  induction n with
  | zero =>
    intro l t h ht
    obtain rfl := List.length_eq_zero_iff.1 (by omega : l.length = 0)
    rw [p1_nil, p1_nil]
    have := trimR_app ht []
    rw [List.append_nil] at this
    exact this
  | succ n ih =>
    intro l t h ht
    rcases cut_cases l with ⟨-, hN⟩ | ⟨i, -, hN, hc, hi⟩
    · rw [p1_take l.length t l hN (Nat.le_refl _), p1_take l.length [] l hN (Nat.le_refl _), List.take_length, List.drop_length, p1_nil, p1_nil, trimR_app ht]
      rfl
    · have hc0 : crlf (l.drop i) 0 = true := by rw [crlf_drop]; exact hc
      rw [p1_take i t l hN (by omega), p1_take i [] l hN (by omega), p1_end _ _ hc0, p1_end _ _ hc0, ih _ _ (by simp; omega) (ok_crs _), ih _ (trimR ([] ++ _) ++ crs) (by simp; omega) (ok_crs _), trimR_app ht]
      simp
theorem crlf_take (l : List UInt8) (m j : Nat) (h : crlf l j = false) : crlf (l.take m) j = false := by
  rw [Bool.eq_false_iff] at h ⊢
  intro e
  apply h
  obtain ⟨h1, h2, h3⟩ := (crlf_iff _ _).1 e
  rw [List.length_take] at h1
  exact (crlf_iff l j).2 ⟨by omega, by simpa using h2, by simpa using h3⟩
theorem noCr_trim {l : List UInt8} {i : Nat} (h : NoCr l i) : NoCr (trimR (l.take i)) (trimR (l.take i)).length := by
  intro j hj
  unfold trimR at hj ⊢
  rw [List.length_take, List.length_take] at hj
  exact crlf_take _ _ _ (crlf_take _ _ _ (h j (by omega)))
theorem two_passes : ∀ (n : Nat) (l out : List UInt8), l.length ≤ n → p2 out (p1 [] l) = unq out l := by
  intro n
  induction n with
  | zero =>
    intro l out h
    obtain rfl := List.length_eq_zero_iff.1 (by omega : l.length = 0)
    rw [p1_nil, show trimR [] = [] from rfl, p2, unq_end (o := out) (by rw [show body (trimR (cut [] crs).1) = [] from rfl, qb]) rfl]
  | succ n ih =>
    intro l out h
    rcases cut_cases l with ⟨hcut, hN⟩ | ⟨i, hcut, hN, hc, hi⟩
    · have e : p1 [] l = trimR l ++ [] := by
        rw [p1_take l.length [] l hN (Nat.le_refl _), List.take_length, List.drop_length, p1_nil, List.append_nil]; rfl
      have hN2 : NoCr (trimR l) (trimR l).length := by have := noCr_trim (l := l) (i := l.length) hN; rwa [List.take_length] at this
      rw [e, p2_line _ (trimR l) [] out (Nat.le_refl _) hN2 (.inl rfl)]
      cases hq : qb out (body (trimR l)) with
      | none => rw [unq_bad (by rw [hcut]; exact hq)]
      | some o =>
        rw [unq_end (o := o) (by rw [hcut]; exact hq) (by rw [hcut])]
        dsimp only
        rw [List.drop_nil, p2]
        split <;> rfl
    · have hc0 : crlf (l.drop i) 0 = true := by rw [crlf_drop]; exact hc
      have e : p1 [] l = trimR (l.take i) ++ (13 :: 10 :: p1 [] (l.drop (i + 2))) := by
        rw [p1_take i [] l hN (by omega), p1_end _ _ hc0, p1_app _ _ _ (Nat.le_refl _) (ok_crs _), List.drop_drop]
        simp [crs]
      have hcr : (cut l crs).2.2 = true := by rw [hcut]
      rw [e, p2_line _ (trimR (l.take i)) _ out (Nat.le_refl _) (noCr_trim hN) (.inr ⟨_, rfl⟩)]
      cases hq : qb out (body (trimR (l.take i))) with
      | none => rw [unq_bad (by rw [hcut]; exact hq)]
      | some o =>
        rw [unq_more (o := o) (by rw [hcut]; exact hq) hcr, hcut]
        dsimp only
        split
        · rw [List.append_nil]
          exact ih _ _ (by simp; omega)
        · rw [p2, if_neg (by decide), p2, if_neg (by decide), List.append_assoc]
          exact ih _ _ (by simp; omega)
end Pl
end Go.Proofs.YtkchnlfedkfpjaaDoor
