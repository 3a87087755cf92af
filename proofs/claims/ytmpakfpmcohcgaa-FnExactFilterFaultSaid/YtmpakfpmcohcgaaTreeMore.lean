
/- Trees by spans and by a stack: more, plain. -/
import Derived.Test.YtmpakfpmcohcgaaTreePlain
namespace Go.Proofs.Ytmpakfpmcohcgaa
namespace Tr
variable {ok ok' : Nat → Bool} {kids : Nat → List Int}
theorem Fo.le {d lo hi : Nat} {ks : List Int} (h : Fo ok kids d lo hi ks) : lo ≤ hi := by
  induction h with
  | nil => exact Nat.le_refl _
  | snoc d lo m k ks _ _ _ ih1 ih2 => omega
theorem Fo.range {d lo hi : Nat} {ks : List Int} (h : Fo ok kids d lo hi ks) : ∀ k ∈ ks, 0 ≤ k ∧ k < (hi : Int) := by
  induction h with
  | nil => intro k hk; cases hk
  | snoc d lo m k ks h1 _ h3 ih1 _ =>
    intro j hj
    rcases List.mem_append.1 hj with hj | hj
    · have := ih1 j hj
      have := h3.le
      omega
    · obtain rfl : j = (k : Int) := by simpa using hj
      omega
theorem fo_dep' (N : Nat) (dep : Nat → Nat) (hdep : ∀ i, i < N → (∀ k ∈ kids i, 0 ≤ k ∧ k < (i : Int)) → dep i = mx dep (kids i) + 1) {d lo hi : Nat} {ks : List Int} (h : Fo ok kids d lo hi ks) : hi ≤ N → ∀ k ∈ ks, dep k.toNat ≤ d := by
  induction h with
  | nil => intro _ k hk; cases hk
  | snoc d lo m k ks h1 _ h3 ih1 ih2 =>
    intro hN j hj
    have hmk := h3.le
    rcases List.mem_append.1 hj with hj | hj
    · exact ih1 (by omega) j hj
    · obtain rfl : j = (k : Int) := by simpa using hj
      rw [Int.toNat_natCast, hdep k (by omega) h3.range]
      have := (mx_le dep (kids k) d).2 (ih2 (by omega))
      omega
theorem dep_fo' (N : Nat) (dep : Nat → Nat) (hdep : ∀ i, i < N → (∀ k ∈ kids i, 0 ≤ k ∧ k < (i : Int)) → dep i = mx dep (kids i) + 1) {D lo hi : Nat} {ks : List Int} (h : Fo ok kids D lo hi ks) : hi ≤ N → ∀ d, (∀ k ∈ ks, dep k.toNat ≤ d) → Fo ok kids d lo hi ks := by
  induction h with
  | nil => exact fun _ d _ => Fo.nil _ _
  | snoc D lo m k ks h1 h2 h3 ih1 ih2 =>
    intro hN d hd
    have hmk := h3.le
    have hk := hd k (List.mem_append.2 (.inr (List.mem_singleton.2 rfl)))
    rw [Int.toNat_natCast, hdep k (by omega) h3.range] at hk
    obtain ⟨e, rfl⟩ : ∃ e, d = e + 1 := ⟨d - 1, by omega⟩
    exact Fo.snoc e lo m k ks (ih1 (by omega) _ fun j hj => hd j (List.mem_append.2 (.inl hj))) h2 (ih2 (by omega) e ((mx_le dep (kids k) e).1 (by omega)))
theorem same' (N : Nat) (dep : Nat → Nat) (hdep : ∀ i, i < N → (∀ k ∈ kids i, 0 ≤ k ∧ k < (i : Int)) → dep i = mx dep (kids i) + 1) (known : Nat → Prop) (hw : ∀ k, ok k = true → ok' k = true) (hk : ∀ k, known k → ok' k = true → ok k = true ∧ ∀ j ∈ kids k, known j.toNat) (n d : Nat) (hN : n + 1 ≤ N) (hn : known n) :
    span ok kids (d + 1) n = some 0 ↔ (run ok' kids (n + 1) = some [(n : Int)] ∧ dep n ≤ d + 1) := by
  constructor
  · intro h
    obtain ⟨h1, e, he, h2⟩ := span_fo _ _ _ h
    obtain rfl : d = e := by omega
    have hf : Fo ok kids (d + 1) 0 (n + 1) ([] ++ [(n : Int)]) := Fo.snoc d 0 0 n [] (Fo.nil _ _) h1 h2
    refine ⟨by simpa using fo_run (fo_weaken hw hf) [] rfl, ?_⟩
    have := fo_dep' N dep hdep hf hN n (by simp)
    rwa [Int.toNat_natCast] at this
  · rintro ⟨h1, h2⟩
    obtain ⟨D, hD⟩ := run_fo _ _ h1
    have hf := dep_fo' N dep hdep (fo_known known hk hD (by intro k hk'; obtain rfl : k = (n : Int) := by simpa using hk'
                                                            rwa [Int.toNat_natCast])) hN (d + 1) (by intro k hk'; obtain rfl : k = (n : Int) := by simpa using hk'
                                                                                                     rwa [Int.toNat_natCast])
    generalize hl : [(n : Int)] = l at hf
    generalize hh : n + 1 = hi at hf
    generalize hd : d + 1 = dd at hf
    cases hf with
    | nil => cases hl
    | snoc d' lo m k ks h3 h4 h5 =>
      obtain ⟨rfl⟩ : d = d' := by omega
      obtain rfl : n = k := by omega
      obtain rfl : ks = [] := by
        have := congrArg List.length hl
        simp at this
        exact this
      generalize hz : (0 : Nat) = z at h3
      generalize hnil : ([] : List Int) = nl at h3
      cases h3 with
      | nil => exact fo_span d _ n h4 h5
      | snoc => simp at hnil
theorem run_range (n : Nat) (o : List Int) (h : run ok kids n = some o) : ∀ k ∈ o, 0 ≤ k ∧ k < (n : Int) := by
  obtain ⟨d, hd⟩ := run_fo n o h
  exact hd.range
theorem mx_congr (f g : Nat → Nat) (l : List Int) (h : ∀ k ∈ l, f k.toNat = g k.toNat) : mx f l = mx g l := by
  induction l with
  | nil => rfl
  | cons k r ih =>
    simp only [mx]
    rw [h k (List.mem_cons_self ..), ih fun j hj => h j (List.mem_cons_of_mem _ hj)]
theorem run_none (n : Nat) (h : run ok kids n = none) : ∀ m, n ≤ m → run ok kids m = none
  | 0, hm => by obtain rfl : n = 0 := by omega
                exact h
  | m + 1, hm => by
    by_cases e : n = m + 1
    · rw [← e]; exact h
    · have := run_none n h m (by omega)
      unfold run
      rw [this]
theorem run_kids : ∀ (n : Nat) (o : List Int), run ok kids n = some o → ∀ i, i < n → ∀ k ∈ kids i, 0 ≤ k ∧ k < (i : Int)
  | 0, o, _, i, hi => by omega
  | n + 1, o, h, i, hi => by
    unfold run at h
    split at h
    · cases h
    · rename_i p hp
      split at h
      · rename_i hc
        by_cases e : i = n
        · subst e
          intro k hk
          rw [← hc.2.1] at hk
          exact run_range i p hp k (List.mem_of_mem_drop hk)
        · exact run_kids n p hp i (by omega)
      · cases h
theorem run_len : ∀ (n : Nat) (o : List Int), run ok kids n = some o → o.length ≤ n
  | 0, o, h => by cases h; exact Nat.le_refl _
  | n + 1, o, h => by
    unfold run at h
    split at h
    · cases h
    · rename_i p hp
      split at h
      · cases h
        have := run_len n p hp
        rw [List.length_append, List.length_take, List.length_singleton]
        omega
      · cases h
theorem mx_snoc (dep : Nat → Nat) (l : List Int) (k : Int) : mx dep (l ++ [k]) = max (mx dep l) (dep k.toNat) := by
  induction l with
  | nil => simp [mx]
  | cons a r ih => simp only [List.cons_append, mx, ih]; omega
/-- The depths, node by node; kids that stand behind their node count as nothing. -/
def depTo (kids : Nat → List Int) : Nat → Nat → Nat
  | 0, _ => 0
  | n + 1, i => if i = n then mx (depTo kids n) (kids n) + 1 else depTo kids n i
theorem depTo_le (kids : Nat → List Int) : ∀ n i, depTo kids n i ≤ n
  | 0, _ => Nat.le_refl _
  | n + 1, i => by
    unfold depTo
    split
    · have := (mx_le (depTo kids n) (kids n) n).2 (fun k _ => depTo_le kids n k.toNat)
      omega
    · have := depTo_le kids n i
      omega
theorem depTo_up (kids : Nat → List Int) (i : Nat) : ∀ n, i < n → depTo kids n i = depTo kids (i + 1) i
  | 0, h => by omega
  | n + 1, h => by
    by_cases hi : i = n
    · rw [hi]
    · rw [← depTo_up kids i n (by omega)]
      conv => lhs; unfold depTo
      rw [if_neg hi]
theorem depTo_mid (kids : Nat → List Int) (i m n : Nat) (h1 : i < m) (h2 : i < n) : depTo kids m i = depTo kids n i := by rw [depTo_up kids i m h1, depTo_up kids i n h2]
theorem depTo_step (kids : Nat → List Int) (N i : Nat) (h : i < N) (hk : ∀ k ∈ kids i, 0 ≤ k ∧ k < (i : Int)) : depTo kids N i = mx (depTo kids N) (kids i) + 1 := by
  rw [depTo_up kids i N h]
  conv => lhs; unfold depTo
  rw [if_pos rfl, mx_congr (depTo kids i) (depTo kids N) (kids i) fun k hk' => depTo_mid kids _ i N (by have := hk k hk'; omega) (by have := hk k hk'; omega)]
/-- A stack without tests. -/
def tt : Nat → Bool := fun _ => true
theorem run_ok : ∀ (n : Nat) (o : List Int), run ok kids n = some o ↔ (run tt kids n = some o ∧ ∀ i, i < n → ok i = true)
  | 0, o => by
    constructor
    · intro h; exact ⟨h, fun i hi => by omega⟩
    · intro h; exact h.1
  | n + 1, o => by
    constructor
    · intro h
      unfold run at h
      split at h
      · cases h
      · rename_i p hp
        split at h
        · rename_i hc
          obtain ⟨h1, h2⟩ := (run_ok n p).1 hp
          refine ⟨?_, fun i hi => ?_⟩
          · unfold run
            rw [h1]
            dsimp only
            rw [if_pos ⟨hc.1, hc.2.1, rfl⟩]
            exact h
          · by_cases e : i = n
            · rw [e]; exact hc.2.2
            · exact h2 i (by omega)
        · cases h
    · rintro ⟨h, hk⟩
      unfold run at h
      split at h
      · cases h
      · rename_i p hp
        split at h
        · rename_i hc
          have := (run_ok n p).2 ⟨hp, fun i hi => hk i (by omega)⟩
          unfold run
          rw [this]
          dsimp only
          rw [if_pos ⟨hc.1, hc.2.1, hk n (by omega)⟩]
          exact h
        · cases h
def oneT (kids : Nat → List Int) (N : Nat) : Bool := match run tt kids N with | none => false | some o => (o.length : Int) == 1
theorem oneT_iff (kids : Nat → List Int) (n : Nat) : oneT kids (n + 1) = true ↔ run tt kids (n + 1) = some [(n : Int)] := by
  unfold oneT
  constructor
  · intro h
    cases hr : run tt kids (n + 1) with
    | none => rw [hr] at h; cases h
    | some o =>
      rw [hr] at h
      obtain ⟨p, rfl⟩ := run_last n o hr
      have : p = [] := by
        simp at h
        first | exact h | (exact List.length_eq_zero_iff.1 (by omega))
      rw [this]
      rfl
  · intro h
    rw [h]
    rfl
theorem oneT_none (kids : Nat → List Int) (i N : Nat) (hi : i ≤ N) (h : run tt kids i = none) : oneT kids N = false := by
  unfold oneT
  rw [run_none i h N hi]
theorem oneT_zero (kids : Nat → List Int) : oneT kids 0 = false := rfl
theorem oneT_kids (kids : Nat → List Int) (N : Nat) (h : oneT kids N = true) : ∀ i, i < N → ∀ k ∈ kids i, 0 ≤ k ∧ k < (i : Int) := by
  unfold oneT at h
  cases hr : run tt kids N with
  | none => rw [hr] at h; cases h
  | some o => exact run_kids N o hr
/-- Both ways say the same. -/
theorem span_oneT (n d : Nat) : span ok kids (d + 1) n = some 0 ↔ (oneT kids (n + 1) = true ∧ depTo kids (n + 1) n ≤ d + 1 ∧ ∀ i, i < n + 1 → ok i = true) := by
  rw [same' (ok := ok) (ok' := ok) (n + 1) (depTo kids (n + 1)) (fun i => depTo_step kids (n + 1) i) (fun _ => True) (fun _ h => h) (fun _ _ h => ⟨h, fun _ _ => trivial⟩) n d (Nat.le_refl _) trivial, run_ok, oneT_iff]
  exact ⟨fun ⟨⟨a, b⟩, c⟩ => ⟨a, c, b⟩, fun ⟨a, c, b⟩ => ⟨⟨a, b⟩, c⟩⟩
end Tr
end Go.Proofs.Ytmpakfpmcohcgaa
