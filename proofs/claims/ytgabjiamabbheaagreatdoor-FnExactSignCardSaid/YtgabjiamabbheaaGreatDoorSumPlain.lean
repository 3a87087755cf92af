
/- Plain mathematics of sums: a prime, the fold over a text, one byte turned. No program. -/
namespace Go.Proofs.YtgabjiamabbheaaGreatDoor
namespace Ps
/-- No number from d on, for f steps, divides p. -/
def none_ (p : Nat) : Nat → Nat → Bool
  | 0, _ => true
  | f + 1, d => !(p % d == 0) && none_ p f (d + 1)
set_option maxRecDepth 20000 in
theorem none_spec (p : Nat) : ∀ (f d : Nat), none_ p f d = true → ∀ x, d ≤ x → x < d + f → ¬ p % x = 0
  | 0, d, _, x, h1, h2 => by omega
  | f + 1, d, h, x, h1, h2 => by
    rw [none_, Bool.and_eq_true] at h
    by_cases e : x = d
    · subst e
      simpa using h.1
    · exact none_spec p f (d + 1) h.2 x (by omega) (by omega)
abbrev P : Nat := 2147483647
set_option maxRecDepth 1000000 in
theorem none_P : none_ P 46340 2 = true := by decide +kernel
set_option maxRecDepth 20000 in
theorem small_div (x : Nat) (h2 : 2 ≤ x) (h : x * x ≤ P) : ¬ P % x = 0 := by
  refine none_spec P 46340 2 none_P x h2 ?_
  have h3 : x < 46341 := by
    by_cases hx : x < 46341
    · exact hx
    · have : 46341 * 46341 ≤ x * x := Nat.mul_le_mul (by omega) (by omega)
      unfold P at h
      omega
  omega
set_option maxRecDepth 20000 in
theorem coprime_P (x : Nat) (h0 : 1 ≤ x) (h1 : x < P) : Nat.Coprime P x := by
  have hg : Nat.gcd P x ∣ P := Nat.gcd_dvd_left P x
  have hgx : Nat.gcd P x ∣ x := Nat.gcd_dvd_right P x
  have hle : Nat.gcd P x ≤ x := Nat.le_of_dvd (by omega) hgx
  obtain ⟨g, hgg⟩ : ∃ g, Nat.gcd P x = g := ⟨_, rfl⟩
  show Nat.gcd P x = 1
  rw [hgg] at hg hgx hle ⊢
  obtain ⟨q, hq⟩ := hg
  by_cases hg1 : g ≤ 1
  · have : g ≠ 0 := by
      rintro rfl
      rw [Nat.zero_mul] at hq
      exact absurd hq (by decide)
    omega
  · exfalso
    have hq2 : 2 ≤ q := by
      by_cases hq2 : 2 ≤ q
      · exact hq2
      · have : q = 0 ∨ q = 1 := by omega
        rcases this with rfl | rfl
        · rw [Nat.mul_zero] at hq; exact absurd hq (by decide)
        · rw [Nat.mul_one] at hq; omega
    rcases Nat.le_total g q with hgq | hgq
    · have hs : g * g ≤ P := by rw [hq]; exact Nat.mul_le_mul_left g hgq
      exact small_div g (by omega) hs (by rw [hq]; exact Nat.mul_mod_right g q)
    · have hs : q * q ≤ P := by rw [hq]; exact Nat.mul_le_mul_right q hgq
      exact small_div q hq2 hs (by rw [hq, Nat.mul_comm]; exact Nat.mul_mod_right q g)
/-- A sum, from a number on. -/
def sm (A : Nat) : Nat → List UInt8 → Nat
  | s, [] => s
  | s, c :: r => sm A ((s * A + c.toNat + 1) % P) r
set_option maxRecDepth 20000 in
theorem sm_lt (A : Nat) : ∀ (l : List UInt8) (s : Nat), s < P → sm A s l < P
  | [], s, h => h
  | c :: r, s, h => by
    rw [sm]
    exact sm_lt A r _ (Nat.mod_lt _ (by decide))
set_option maxRecDepth 20000 in
/-- Numbers apart stay apart by a step. -/
theorem step_inj (A s t k : Nat) (hA0 : 1 ≤ A) (hA : A < P) (_hs : s < P) (ht : t < P) (hst : s < t) : (s * A + k) % P ≠ (t * A + k) % P := by
  intro e
  have hle : s * A ≤ t * A := Nat.mul_le_mul_right A (by omega)
  have hd : P ∣ (t * A + k) - (s * A + k) := Nat.dvd_of_mod_eq_zero (Nat.sub_mod_eq_zero_of_mod_eq e.symm)
  rw [show t * A + k - (s * A + k) = (t - s) * A from by rw [Nat.sub_mul]; omega] at hd
  have hc := coprime_P A hA0 hA
  have h2 : P ∣ t - s := Nat.Coprime.dvd_of_dvd_mul_right hc hd
  have := Nat.le_of_dvd (by omega) h2
  omega
set_option maxRecDepth 20000 in
theorem step_ne (A s t k : Nat) (hA0 : 1 ≤ A) (hA : A < P) (hs : s < P) (ht : t < P) (hst : s ≠ t) : (s * A + k) % P ≠ (t * A + k) % P := by
  rcases Nat.lt_or_gt_of_ne hst with h | h
  · exact step_inj A s t k hA0 hA hs ht h
  · exact (step_inj A t s k hA0 hA ht hs h).symm
set_option maxRecDepth 20000 in
theorem sm_ne (A : Nat) (hA0 : 1 ≤ A) (hA : A < P) : ∀ (l : List UInt8) (s t : Nat), s < P → t < P → s ≠ t → sm A s l ≠ sm A t l
  | [], _, _, _, _, h => h
  | c :: r, s, t, hs, ht, h => by
    rw [sm, sm]
    refine sm_ne A hA0 hA r _ _ (Nat.mod_lt _ (by decide)) (Nat.mod_lt _ (by decide)) ?_
    rw [Nat.add_assoc, Nat.add_assoc]
    exact step_ne A s t _ hA0 hA hs ht h
set_option maxRecDepth 20000 in
theorem sm_app (A : Nat) : ∀ (p r : List UInt8) (s : Nat), sm A s (p ++ r) = sm A (sm A s p) r
  | [], _, _ => rfl
  | c :: p, r, s => by
    rw [List.cons_append, sm, sm]
    exact sm_app A p r _
set_option maxRecDepth 20000 in
theorem near_ne (x c d : Nat) (hc : c < 256) (hd : d < 256) (h : c < d) : (x + c + 1) % P ≠ (x + d + 1) % P := by
  intro e
  have hdv : P ∣ (x + d + 1) - (x + c + 1) := Nat.dvd_of_mod_eq_zero (Nat.sub_mod_eq_zero_of_mod_eq e.symm)
  have := Nat.le_of_dvd (by omega) hdv
  unfold P at this
  omega
set_option maxRecDepth 20000 in
/-- One byte turned into another one: another sum. -/
theorem sm_turn (A s : Nat) (hA0 : 1 ≤ A) (hA : A < P) (p r : List UInt8) (c d : UInt8) (h : c ≠ d) : sm A s (p ++ c :: r) ≠ sm A s (p ++ d :: r) := by
  rw [sm_app, sm_app, sm, sm]
  refine sm_ne A hA0 hA r _ _ (Nat.mod_lt _ (by decide)) (Nat.mod_lt _ (by decide)) ?_
  have hc : c.toNat < 256 := UInt8.toNat_lt _
  have hd : d.toNat < 256 := UInt8.toNat_lt _
  have hn : c.toNat ≠ d.toNat := fun e => h (UInt8.toNat_inj.1 e)
  rcases Nat.lt_or_gt_of_ne hn with h' | h'
  · exact near_ne _ _ _ hc hd h'
  · exact (near_ne _ _ _ hd hc h').symm
end Ps
end Go.Proofs.YtgabjiamabbheaaGreatDoor
