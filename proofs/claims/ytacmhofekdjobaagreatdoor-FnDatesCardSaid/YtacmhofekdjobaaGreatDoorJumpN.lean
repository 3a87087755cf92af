
/- A scope with several labels: what holds at each jump, by its label, and a measure. A law of no program. -/
import Derived.ScopeJumps
namespace Go.Proofs.YtacmhofekdjobaaGreatDoor
open Go
/-- As Q; by a goto: what is said of its label. -/
def jumpN (J : Nat → Act → World → Prop) (Q : Exit → Act → World → Prop) : Exit → Act → World → Prop
  | .goto l, a, w => J l a w
  | e, a, w => Q e a w
set_option maxRecDepth 20000 in
theorem wp_scope_many {P : Program} {a : Act} {w : World} {Q : Exit → Act → World → Prop} {c : Code} (J : Nat → Act → World → Prop) (μ : Nat → Act → World → Nat)
    (hfirst : c.wp P (jumpN J Q) a w)
    (hpass : ∀ l a w, J l a w → ∃ r, findLabel c l = some r ∧ r.wp P (jumpN (fun l' a' w' => J l' a' w' ∧ μ l' a' w' < μ l a w) Q) a w) : (Code.scope c).wp P Q a w := by
  intro b k cs
  have run : ∀ n l a w, μ l a w = n → J l a w → ∃ r, findLabel c l = some r ∧ ∃ e a' w', Q e a' w' ∧ Arrives P (lone (b.at a (.code r :: .inScope c :: k)) cs w) b k cs e a' w' := by
    intro n
    induction n using Nat.strongRecOn with
    | _ n again =>
      intro l a w hn hj
      obtain ⟨r, hr, hw⟩ := hpass l a w hj
      refine ⟨r, hr, ?_⟩
      obtain ⟨e, a1, w1, hq, ha⟩ := hw b (.inScope c :: k) cs
      cases e with
      | goto m =>
        obtain ⟨hj1, hlt⟩ := hq
        obtain ⟨r2, hr2, e2, a2, w2, hq2, ha2⟩ := again _ (by omega) m a1 w1 rfl hj1
        exact ⟨e2, a2, w2, hq2, .of_steps (ha _ (by simp [gotoIn, hr2])) ha2⟩
      | normal => exact ⟨.normal, a1, w1, hq, Steps.trans ha (.one step_inScope)⟩
      | exit i => exact ⟨.exit i, a1, w1, hq, fun k' hk => ha k' (by simp [exitTo, hk])⟩
      | ret => exact ⟨_, a1, w1, hq, ha⟩
      | panic _ => exact ⟨_, a1, w1, hq, ha⟩
      | outgrown => exact ⟨_, a1, w1, hq, ha⟩
  obtain ⟨e, a1, w1, hq, ha⟩ := hfirst b (.inScope c :: k) cs
  cases e with
  | goto m =>
    obtain ⟨r, hr, e2, a2, w2, hq2, ha2⟩ := run _ m a1 w1 rfl hq
    exact ⟨e2, a2, w2, hq2, .of_steps (.head step_scope (ha _ (by simp [gotoIn, hr]))) ha2⟩
  | normal => exact ⟨.normal, a1, w1, hq, .head step_scope (Steps.trans ha (.one step_inScope))⟩
  | exit i => exact ⟨.exit i, a1, w1, hq, fun k' hk => .head step_scope (ha k' (by simp [exitTo, hk]))⟩
  | ret => exact ⟨_, a1, w1, hq, .of_steps (.one step_scope) ha⟩
  | panic _ => exact ⟨_, a1, w1, hq, .of_steps (.one step_scope) ha⟩
  | outgrown => exact ⟨_, a1, w1, hq, .of_steps (.one step_scope) ha⟩
set_option maxRecDepth 20000 in
theorem jumpN_mono {J J' : Nat → Act → World → Prop} {Q : Exit → Act → World → Prop} (hj : ∀ l a w, J l a w → J' l a w) (e : Exit) (a : Act) (w : World) (h : jumpN J Q e a w) : jumpN J' Q e a w := by
  cases e with
  | goto l => exact hj _ _ _ h
  | _ => exact h
set_option maxRecDepth 20000 in
theorem wp_scope_from {P : Program} {a : Act} {w : World} {Q : Exit → Act → World → Prop} {c X : Code} (l0 : Nat) (J : Nat → Act → World → Prop) (μ : Nat → Act → World → Nat) (hf : findLabel c l0 = some (Code.skip.seq X))
    (hpass0 : ∀ a w, J l0 a w → X.wp P (jumpN (fun l' a' w' => J l' a' w' ∧ μ l' a' w' < μ l0 a w) Q) a w)
    (hpass : ∀ l a w, l ≠ l0 → J l a w → ∃ r, findLabel c l = some r ∧ r.wp P (jumpN (fun l' a' w' => J l' a' w' ∧ μ l' a' w' < μ l a w) Q) a w)
    (hfirst : (∀ a w, J l0 a w → X.wp P (jumpN J Q) a w) → c.wp P (jumpN J Q) a w) : (Code.scope c).wp P Q a w := by
  refine wp_scope_many J μ (hfirst fun a w h => wp_mono (hpass0 a w h) (jumpN_mono fun _ _ _ h => h.1)) ?_
  intro l a w h
  by_cases hl : l = l0
  · subst hl
    exact ⟨_, hf, wp_seq (wp_skip (hpass0 a w h))⟩
  · exact hpass l a w hl h
set_option maxRecDepth 20000 in
/-- Jumps forward alone, one on each way. -/
theorem wp_scope_once {P : Program} {a : Act} {w : World} {Q : Exit → Act → World → Prop} {c : Code} (h : c.wp P (jumpN (fun l a w => ∃ r, findLabel c l = some r ∧ r.wp P (jumpN (fun _ _ _ => False) Q) a w) Q) a w) : (Code.scope c).wp P Q a w := by
  refine wp_scope_many (fun l a w => ∃ r, findLabel c l = some r ∧ r.wp P (jumpN (fun _ _ _ => False) Q) a w) (fun _ _ _ => 0) h ?_
  rintro l a w ⟨r, hr, hw⟩
  exact ⟨r, hr, wp_mono hw (jumpN_mono fun _ _ _ h => h.elim)⟩
end Go.Proofs.YtacmhofekdjobaaGreatDoor
