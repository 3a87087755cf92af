
/- Nodes in the order of a text: a tree by its spans, and by a stack: plain. -/

/- Trees by spans and by a stack: more, plain. -/
import Derived.Test.YtfaeckaeaeadeaaGreatDoorBase
namespace Go.Proofs.YtfaeckaeaeadeaaGreatDoor
namespace Tr
theorem snoc_cases {α : Type} (l : List α) : l = [] ∨ ∃ r a, l = r ++ [a] := by
  rcases h : l.reverse with _ | ⟨a, r⟩
  · exact .inl (List.reverse_eq_nil_iff.1 h)
  · refine .inr ⟨r.reverse, a, ?_⟩
    have := congrArg List.reverse h
    simpa using this
/-- What lies from lo up to hi are the trees of these roots, each of at most d nodes deep. -/
inductive Fo (ok : Nat → Bool) (kids : Nat → List Int) : Nat → Nat → Nat → List Int → Prop
  | nil (d a : Nat) : Fo ok kids d a a []
  | snoc (d lo m k : Nat) (ks : List Int) (h1 : Fo ok kids (d + 1) lo m ks) (h2 : ok k = true) (h3 : Fo ok kids d m k (kids k)) : Fo ok kids (d + 1) lo (k + 1) (ks ++ [(k : Int)])
variable {ok ok' : Nat → Bool} {kids : Nat → List Int}
theorem Fo.mono {d lo hi : Nat} {ks : List Int} (h : Fo ok kids d lo hi ks) : ∀ d', d ≤ d' → Fo ok kids d' lo hi ks := by
  induction h with
  | nil d a => exact fun d' _ => Fo.nil _ _
  | snoc d lo m k ks _ h2 _ ih1 ih2 =>
    intro d' hd
    obtain ⟨e, rfl⟩ : ∃ e, d' = e + 1 := ⟨d' - 1, by omega⟩
    exact Fo.snoc e lo m k ks (ih1 _ hd) h2 (ih2 e (by omega))
theorem Fo.split {d lo hi : Nat} {l : List Int} (h : Fo ok kids d lo hi l) : ∀ p q, l = p ++ q → ∃ m, Fo ok kids d lo m p ∧ Fo ok kids d m hi q := by
  induction h with
  | nil d a =>
    intro p q e
    obtain ⟨rfl, rfl⟩ := List.append_eq_nil_iff.1 e.symm
    exact ⟨a, Fo.nil _ _, Fo.nil _ _⟩
  | snoc d lo m k ks h1 h2 h3 ih1 ih2 =>
    intro p q e
    rcases snoc_cases q with rfl | ⟨r, a, rfl⟩
    · rw [List.append_nil] at e
      subst e
      exact ⟨k + 1, Fo.snoc d lo m k ks h1 h2 h3, Fo.nil _ _⟩
    · rw [← List.append_assoc] at e
      obtain ⟨e1, e2⟩ := List.append_inj' e rfl
      obtain rfl : (k : Int) = a := by simpa using e2
      obtain ⟨x, hx1, hx2⟩ := ih1 p r e1
      exact ⟨x, hx1, Fo.snoc d x m k r hx2 h2 h3⟩
/-- The specification's way: where the nodes below one begin. -/
def down (sp : Nat → Option Nat) : List Int → Nat → Option Nat
  | [], e => some e
  | k :: r, e => if 0 ≤ k ∧ k + 1 = (e : Int) then (match sp (e - 1) with | some s => down sp r s | none => none) else none
def span (ok : Nat → Bool) (kids : Nat → List Int) : Nat → Nat → Option Nat
  | 0, _ => none
  | f + 1, i => if ok i then down (span ok kids f) (kids i).reverse i else none
theorem down_fo (f : Nat) (ih : ∀ i s, span ok kids f i = some s → ok i = true ∧ ∃ d, f = d + 1 ∧ Fo ok kids d s i (kids i)) :
    ∀ (ks : List Int) (e s : Nat), down (span ok kids f) ks e = some s → Fo ok kids f s e ks.reverse := by
  intro ks
  induction ks with
  | nil =>
    intro e s h
    simp only [down, Option.some.injEq] at h
    subst h
    exact Fo.nil _ _
  | cons k r ihr =>
    intro e s h
    unfold down at h
    split at h
    · rename_i hk
      split at h
      · rename_i s1 hs1
        obtain ⟨h1, d, rfl, h2⟩ := ih _ _ hs1
        have h3 := ihr s1 s h
        have hke : k = ((e - 1 : Nat) : Int) := by omega
        rw [List.reverse_cons, hke]
        have := Fo.snoc d s s1 (e - 1) r.reverse h3 h1 h2
        rwa [show e - 1 + 1 = e by omega] at this
      · cases h
    · cases h
theorem span_fo : ∀ (f i s : Nat), span ok kids f i = some s → ok i = true ∧ ∃ d, f = d + 1 ∧ Fo ok kids d s i (kids i)
  | 0, i, s, h => by cases h
  | f + 1, i, s, h => by
    unfold span at h
    split at h
    · rename_i hok
      have := down_fo f (span_fo f) _ _ _ h
      rw [List.reverse_reverse] at this
      exact ⟨hok, f, rfl, this⟩
    · cases h
theorem fo_down {d lo hi : Nat} {ks : List Int} (h : Fo ok kids d lo hi ks) : down (span ok kids d) ks.reverse hi = some lo := by
  induction h with
  | nil d a => rfl
  | snoc d lo m k ks _ h2 _ ih1 ih2 =>
    rw [List.reverse_append, List.reverse_singleton, List.singleton_append]
    unfold down
    rw [if_pos (by omega)]
    have e : span ok kids (d + 1) (k + 1 - 1) = some m := by
      unfold span
      rw [show k + 1 - 1 = k by omega, if_pos h2]
      exact ih2
    rw [e]
    exact ih1
theorem fo_span (d s i : Nat) (h1 : ok i = true) (h2 : Fo ok kids d s i (kids i)) : span ok kids (d + 1) i = some s := by
  unfold span
  rw [if_pos h1]
  exact fo_down h2
/-- The program's way: a stack of the nodes that are nobody's kids as yet. -/
def run (ok : Nat → Bool) (kids : Nat → List Int) : Nat → Option (List Int)
  | 0 => some []
  | n + 1 => match run ok kids n with
    | none => none
    | some o => if (kids n).length ≤ o.length ∧ o.drop (o.length - (kids n).length) = kids n ∧ ok n = true then some (o.take (o.length - (kids n).length) ++ [(n : Int)]) else none
theorem run_fo : ∀ (n : Nat) (o : List Int), run ok kids n = some o → ∃ d, Fo ok kids d 0 n o
  | 0, o, h => by cases h; exact ⟨0, Fo.nil _ _⟩
  | n + 1, o, h => by
    unfold run at h
    split at h
    · cases h
    · rename_i p hp
      split at h
      · rename_i hc
        obtain ⟨h1, h2, h3⟩ := hc
        cases h
        obtain ⟨d, hd⟩ := run_fo n p hp
        obtain ⟨m, hm1, hm2⟩ := hd.split (p.take (p.length - (kids n).length)) (kids n) (by have := (List.take_append_drop (p.length - (kids n).length) p).symm; rwa [h2] at this)
        exact ⟨d + 1, Fo.snoc d 0 m n _ (hm1.mono _ (by omega)) h3 hm2⟩
      · cases h
theorem fo_run {d lo hi : Nat} {ks : List Int} (h : Fo ok kids d lo hi ks) : ∀ p, run ok kids lo = some p → run ok kids hi = some (p ++ ks) := by
  induction h with
  | nil d a => intro p hp; rw [hp, List.append_nil]
  | snoc d lo m k ks _ h2 _ ih1 ih2 =>
    intro p hp
    have e1 := ih2 _ (ih1 p hp)
    unfold run
    rw [e1]
    dsimp only
    have hl : (p ++ ks ++ kids k).length - (kids k).length = (p ++ ks).length := by simp only [List.length_append]; omega
    rw [if_pos ⟨by simp only [List.length_append]; omega, by rw [hl, List.drop_left], h2⟩, hl, List.take_left, List.append_assoc]
theorem run_last (n : Nat) (o : List Int) (h : run ok kids (n + 1) = some o) : ∃ p, o = p ++ [(n : Int)] := by
  unfold run at h
  split at h
  · cases h
  · split at h
    · cases h; exact ⟨_, rfl⟩
    · cases h
/-- How deep a node is, by its kids' depths. -/
def mx (dep : Nat → Nat) : List Int → Nat
  | [] => 0
  | k :: r => max (dep k.toNat) (mx dep r)
theorem mx_le (dep : Nat → Nat) (l : List Int) (d : Nat) : mx dep l ≤ d ↔ ∀ k ∈ l, dep k.toNat ≤ d := by
  induction l with
  | nil => simp [mx]
  | cons k r ih => simp only [mx, List.mem_cons, forall_eq_or_imp, Nat.max_le, ih]
theorem fo_dep (dep : Nat → Nat) (hdep : ∀ i, dep i = mx dep (kids i) + 1) {d lo hi : Nat} {ks : List Int} (h : Fo ok kids d lo hi ks) : ∀ k ∈ ks, dep k.toNat ≤ d := by
  induction h with
  | nil => intro k hk; cases hk
  | snoc d lo m k ks _ _ _ ih1 ih2 =>
    intro j hj
    rcases List.mem_append.1 hj with hj | hj
    · exact ih1 j hj
    · obtain rfl : j = (k : Int) := by simpa using hj
      rw [Int.toNat_natCast, hdep]
      have := (mx_le dep (kids k) d).2 ih2
      omega
theorem dep_fo (dep : Nat → Nat) (hdep : ∀ i, dep i = mx dep (kids i) + 1) {D lo hi : Nat} {ks : List Int} (h : Fo ok kids D lo hi ks) : ∀ d, (∀ k ∈ ks, dep k.toNat ≤ d) → Fo ok kids d lo hi ks := by
  induction h with
  | nil => exact fun d _ => Fo.nil _ _
  | snoc D lo m k ks _ h2 _ ih1 ih2 =>
    intro d hd
    have hk := hd k (List.mem_append.2 (.inr (List.mem_singleton.2 rfl)))
    rw [Int.toNat_natCast, hdep] at hk
    obtain ⟨e, rfl⟩ : ∃ e, d = e + 1 := ⟨d - 1, by omega⟩
    exact Fo.snoc e lo m k ks (ih1 _ fun j hj => hd j (List.mem_append.2 (.inl hj))) h2 (ih2 e ((mx_le dep (kids k) e).1 (by omega)))
/-- Another test that says the same of the nodes that can be met. -/
theorem fo_known (known : Nat → Prop) (h : ∀ k, known k → ok' k = true → ok k = true ∧ ∀ j ∈ kids k, known j.toNat) {d lo hi : Nat} {ks : List Int} (hf : Fo ok' kids d lo hi ks) : (∀ k ∈ ks, known k.toNat) → Fo ok kids d lo hi ks := by
  induction hf with
  | nil => exact fun _ => Fo.nil _ _
  | snoc d lo m k ks _ h2 _ ih1 ih2 =>
    intro hk
    have hkk : known k := by
      have := hk k (List.mem_append.2 (.inr (List.mem_singleton.2 rfl)))
      rwa [Int.toNat_natCast] at this
    obtain ⟨h3, h4⟩ := h k hkk h2
    exact Fo.snoc d lo m k ks (ih1 fun j hj => hk j (List.mem_append.2 (.inl hj))) h3 (ih2 h4)
theorem fo_weaken (h : ∀ k, ok k = true → ok' k = true) {d lo hi : Nat} {ks : List Int} (hf : Fo ok kids d lo hi ks) : Fo ok' kids d lo hi ks := by
  induction hf with
  | nil => exact Fo.nil _ _
  | snoc d lo m k ks _ h2 _ ih1 ih2 => exact Fo.snoc d lo m k ks ih1 (h k h2) ih2
/-- Both ways say the same of the last node. -/
theorem same (dep : Nat → Nat) (hdep : ∀ i, dep i = mx dep (kids i) + 1) (known : Nat → Prop) (hw : ∀ k, ok k = true → ok' k = true) (hk : ∀ k, known k → ok' k = true → ok k = true ∧ ∀ j ∈ kids k, known j.toNat) (n d : Nat) (hn : known n) :
    span ok kids (d + 1) n = some 0 ↔ (run ok' kids (n + 1) = some [(n : Int)] ∧ dep n ≤ d + 1) := by
  constructor
  · intro h
    obtain ⟨h1, e, he, h2⟩ := span_fo _ _ _ h
    obtain rfl : d = e := by omega
    have hf : Fo ok kids (d + 1) 0 (n + 1) ([] ++ [(n : Int)]) := Fo.snoc d 0 0 n [] (Fo.nil _ _) h1 h2
    refine ⟨by simpa using fo_run (fo_weaken hw hf) [] rfl, ?_⟩
    have := fo_dep dep hdep hf n (by simp)
    rwa [Int.toNat_natCast] at this
  · rintro ⟨h1, h2⟩
    obtain ⟨D, hD⟩ := run_fo _ _ h1
    have hf := dep_fo dep hdep (fo_known known hk hD (by intro k hk'; obtain rfl : k = (n : Int) := by simpa using hk'
                                                         rwa [Int.toNat_natCast])) (d + 1) (by intro k hk'; obtain rfl : k = (n : Int) := by simpa using hk'
                                                                                               rwa [Int.toNat_natCast])
    generalize hl : [(n : Int)] = l at hf
    generalize hh : n + 1 = hi at hf
    generalize hd : d + 1 = dd at hf
    cases hf with
    | nil => cases hl
    | snoc d' lo m k ks h3 h4 h5 =>
      obtain ⟨rfl⟩ : d = d' := by omega
      obtain rfl : n = k := by omega
      obtain rfl : ks = [] := by
        have := congrArg List.length hl
        simp at this
        exact this
      generalize hz : (0 : Nat) = z at h3
      generalize hnil : ([] : List Int) = nl at h3
      cases h3 with
      | nil => exact fo_span d _ n h4 h5
      | snoc => simp at hnil
end Tr
end Go.Proofs.YtfaeckaeaeadeaaGreatDoor
namespace Go.Proofs.YtfaeckaeaeadeaaGreatDoor
namespace Tr
variable {ok ok' : Nat → Bool} {kids : Nat → List Int}
theorem Fo.le {d lo hi : Nat} {ks : List Int} (h : Fo ok kids d lo hi ks) : lo ≤ hi := by
  induction h with
  | nil => exact Nat.le_refl _
  | snoc d lo m k ks _ _ _ ih1 ih2 => omega
theorem Fo.range {d lo hi : Nat} {ks : List Int} (h : Fo ok kids d lo hi ks) : ∀ k ∈ ks, 0 ≤ k ∧ k < (hi : Int) := by
  induction h with
  | nil => intro k hk; cases hk
  | snoc d lo m k ks h1 _ h3 ih1 _ =>
    intro j hj
    rcases List.mem_append.1 hj with hj | hj
    · have := ih1 j hj
      have := h3.le
      omega
    · obtain rfl : j = (k : Int) := by simpa using hj
      omega
theorem fo_dep' (N : Nat) (dep : Nat → Nat) (hdep : ∀ i, i < N → (∀ k ∈ kids i, 0 ≤ k ∧ k < (i : Int)) → dep i = mx dep (kids i) + 1) {d lo hi : Nat} {ks : List Int} (h : Fo ok kids d lo hi ks) : hi ≤ N → ∀ k ∈ ks, dep k.toNat ≤ d := by
  induction h with
  | nil => intro _ k hk; cases hk
  | snoc d lo m k ks h1 _ h3 ih1 ih2 =>
    intro hN j hj
    have hmk := h3.le
    rcases List.mem_append.1 hj with hj | hj
    · exact ih1 (by omega) j hj
    · obtain rfl : j = (k : Int) := by simpa using hj
      rw [Int.toNat_natCast, hdep k (by omega) h3.range]
      have := (mx_le dep (kids k) d).2 (ih2 (by omega))
      omega
theorem dep_fo' (N : Nat) (dep : Nat → Nat) (hdep : ∀ i, i < N → (∀ k ∈ kids i, 0 ≤ k ∧ k < (i : Int)) → dep i = mx dep (kids i) + 1) {D lo hi : Nat} {ks : List Int} (h : Fo ok kids D lo hi ks) : hi ≤ N → ∀ d, (∀ k ∈ ks, dep k.toNat ≤ d) → Fo ok kids d lo hi ks := by
  induction h with
  | nil => exact fun _ d _ => Fo.nil _ _
  | snoc D lo m k ks h1 h2 h3 ih1 ih2 =>
    intro hN d hd
    have hmk := h3.le
    have hk := hd k (List.mem_append.2 (.inr (List.mem_singleton.2 rfl)))
    rw [Int.toNat_natCast, hdep k (by omega) h3.range] at hk
    obtain ⟨e, rfl⟩ : ∃ e, d = e + 1 := ⟨d - 1, by omega⟩
    exact Fo.snoc e lo m k ks (ih1 (by omega) _ fun j hj => hd j (List.mem_append.2 (.inl hj))) h2 (ih2 (by omega) e ((mx_le dep (kids k) e).1 (by omega)))
theorem same' (N : Nat) (dep : Nat → Nat) (hdep : ∀ i, i < N → (∀ k ∈ kids i, 0 ≤ k ∧ k < (i : Int)) → dep i = mx dep (kids i) + 1) (known : Nat → Prop) (hw : ∀ k, ok k = true → ok' k = true) (hk : ∀ k, known k → ok' k = true → ok k = true ∧ ∀ j ∈ kids k, known j.toNat) (n d : Nat) (hN : n + 1 ≤ N) (hn : known n) :
    span ok kids (d + 1) n = some 0 ↔ (run ok' kids (n + 1) = some [(n : Int)] ∧ dep n ≤ d + 1) := by
  constructor
  · intro h
    obtain ⟨h1, e, he, h2⟩ := span_fo _ _ _ h
    obtain rfl : d = e := by omega
    have hf : Fo ok kids (d + 1) 0 (n + 1) ([] ++ [(n : Int)]) := Fo.snoc d 0 0 n [] (Fo.nil _ _) h1 h2
    refine ⟨by simpa using fo_run (fo_weaken hw hf) [] rfl, ?_⟩
    have := fo_dep' N dep hdep hf hN n (by simp)
    rwa [Int.toNat_natCast] at this
  · rintro ⟨h1, h2⟩
    obtain ⟨D, hD⟩ := run_fo _ _ h1
    have hf := dep_fo' N dep hdep (fo_known known hk hD (by intro k hk'; obtain rfl : k = (n : Int) := by simpa using hk'
                                                            rwa [Int.toNat_natCast])) hN (d + 1) (by intro k hk'; obtain rfl : k = (n : Int) := by simpa using hk'
                                                                                                     rwa [Int.toNat_natCast])
    generalize hl : [(n : Int)] = l at hf
    generalize hh : n + 1 = hi at hf
    generalize hd : d + 1 = dd at hf
    cases hf with
    | nil => cases hl
    | snoc d' lo m k ks h3 h4 h5 =>
      obtain ⟨rfl⟩ : d = d' := by omega
      obtain rfl : n = k := by omega
      obtain rfl : ks = [] := by
        have := congrArg List.length hl
        simp at this
        exact this
      generalize hz : (0 : Nat) = z at h3
      generalize hnil : ([] : List Int) = nl at h3
      cases h3 with
      | nil => exact fo_span d _ n h4 h5
      | snoc => simp at hnil
theorem run_range (n : Nat) (o : List Int) (h : run ok kids n = some o) : ∀ k ∈ o, 0 ≤ k ∧ k < (n : Int) := by
  obtain ⟨d, hd⟩ := run_fo n o h
  exact hd.range
theorem mx_congr (f g : Nat → Nat) (l : List Int) (h : ∀ k ∈ l, f k.toNat = g k.toNat) : mx f l = mx g l := by
  induction l with
  | nil => rfl
  | cons k r ih =>
    simp only [mx]
    rw [h k (List.mem_cons_self ..), ih fun j hj => h j (List.mem_cons_of_mem _ hj)]
theorem run_none (n : Nat) (h : run ok kids n = none) : ∀ m, n ≤ m → run ok kids m = none
  | 0, hm => by obtain rfl : n = 0 := by omega
                exact h
  | m + 1, hm => by
    by_cases e : n = m + 1
    · rw [← e]; exact h
    · have := run_none n h m (by omega)
      unfold run
      rw [this]
theorem run_kids : ∀ (n : Nat) (o : List Int), run ok kids n = some o → ∀ i, i < n → ∀ k ∈ kids i, 0 ≤ k ∧ k < (i : Int)
  | 0, o, _, i, hi => by omega
  | n + 1, o, h, i, hi => by
    unfold run at h
    split at h
    · cases h
    · rename_i p hp
      split at h
      · rename_i hc
        by_cases e : i = n
        · subst e
          intro k hk
          rw [← hc.2.1] at hk
          exact run_range i p hp k (List.mem_of_mem_drop hk)
        · exact run_kids n p hp i (by omega)
      · cases h
theorem run_len : ∀ (n : Nat) (o : List Int), run ok kids n = some o → o.length ≤ n
  | 0, o, h => by cases h; exact Nat.le_refl _
  | n + 1, o, h => by
    unfold run at h
    split at h
    · cases h
    · rename_i p hp
      split at h
      · cases h
        have := run_len n p hp
        rw [List.length_append, List.length_take, List.length_singleton]
        omega
      · cases h
theorem mx_snoc (dep : Nat → Nat) (l : List Int) (k : Int) : mx dep (l ++ [k]) = max (mx dep l) (dep k.toNat) := by
  induction l with
  | nil => simp [mx]
  | cons a r ih => simp only [List.cons_append, mx, ih]; omega
/-- The depths, node by node; kids that stand behind their node count as nothing. -/
def depTo (kids : Nat → List Int) : Nat → Nat → Nat
  | 0, _ => 0
  | n + 1, i => if i = n then mx (depTo kids n) (kids n) + 1 else depTo kids n i
theorem depTo_le (kids : Nat → List Int) : ∀ n i, depTo kids n i ≤ n
  | 0, _ => Nat.le_refl _
  | n + 1, i => by
    unfold depTo
    split
    · have := (mx_le (depTo kids n) (kids n) n).2 (fun k _ => depTo_le kids n k.toNat)
      omega
    · have := depTo_le kids n i
      omega
theorem depTo_up (kids : Nat → List Int) (i : Nat) : ∀ n, i < n → depTo kids n i = depTo kids (i + 1) i
  | 0, h => by omega
  | n + 1, h => by
    by_cases hi : i = n
    · rw [hi]
    · rw [← depTo_up kids i n (by omega)]
      conv => lhs; unfold depTo
      rw [if_neg hi]
theorem depTo_mid (kids : Nat → List Int) (i m n : Nat) (h1 : i < m) (h2 : i < n) : depTo kids m i = depTo kids n i := by rw [depTo_up kids i m h1, depTo_up kids i n h2]
theorem depTo_step (kids : Nat → List Int) (N i : Nat) (h : i < N) (hk : ∀ k ∈ kids i, 0 ≤ k ∧ k < (i : Int)) : depTo kids N i = mx (depTo kids N) (kids i) + 1 := by
  rw [depTo_up kids i N h]
  conv => lhs; unfold depTo
  rw [if_pos rfl, mx_congr (depTo kids i) (depTo kids N) (kids i) fun k hk' => depTo_mid kids _ i N (by have := hk k hk'; omega) (by have := hk k hk'; omega)]
/-- A stack without tests. -/
def tt : Nat → Bool := fun _ => true
theorem run_ok : ∀ (n : Nat) (o : List Int), run ok kids n = some o ↔ (run tt kids n = some o ∧ ∀ i, i < n → ok i = true)
  | 0, o => by
    constructor
    · intro h; exact ⟨h, fun i hi => by omega⟩
    · intro h; exact h.1
  | n + 1, o => by
    constructor
    · intro h
      unfold run at h
      split at h
      · cases h
      · rename_i p hp
        split at h
        · rename_i hc
          obtain ⟨h1, h2⟩ := (run_ok n p).1 hp
          refine ⟨?_, fun i hi => ?_⟩
          · unfold run
            rw [h1]
            dsimp only
            rw [if_pos ⟨hc.1, hc.2.1, rfl⟩]
            exact h
          · by_cases e : i = n
            · rw [e]; exact hc.2.2
            · exact h2 i (by omega)
        · cases h
    · rintro ⟨h, hk⟩
      unfold run at h
      split at h
      · cases h
      · rename_i p hp
        split at h
        · rename_i hc
          have := (run_ok n p).2 ⟨hp, fun i hi => hk i (by omega)⟩
          unfold run
          rw [this]
          dsimp only
          rw [if_pos ⟨hc.1, hc.2.1, hk n (by omega)⟩]
          exact h
        · cases h
def oneT (kids : Nat → List Int) (N : Nat) : Bool := match run tt kids N with | none => false | some o => (o.length : Int) == 1
theorem oneT_iff (kids : Nat → List Int) (n : Nat) : oneT kids (n + 1) = true ↔ run tt kids (n + 1) = some [(n : Int)] := by
  unfold oneT
  constructor
  · intro h
    cases hr : run tt kids (n + 1) with
    | none => rw [hr] at h; cases h
    | some o =>
      rw [hr] at h
      obtain ⟨p, rfl⟩ := run_last n o hr
      have : p = [] := by
        simp at h
        first | exact h | (exact List.length_eq_zero_iff.1 (by omega))
      rw [this]
      rfl
  · intro h
    rw [h]
    rfl
theorem oneT_none (kids : Nat → List Int) (i N : Nat) (hi : i ≤ N) (h : run tt kids i = none) : oneT kids N = false := by
  unfold oneT
  rw [run_none i h N hi]
theorem oneT_zero (kids : Nat → List Int) : oneT kids 0 = false := rfl
theorem oneT_kids (kids : Nat → List Int) (N : Nat) (h : oneT kids N = true) : ∀ i, i < N → ∀ k ∈ kids i, 0 ≤ k ∧ k < (i : Int) := by
  unfold oneT at h
  cases hr : run tt kids N with
  | none => rw [hr] at h; cases h
  | some o => exact run_kids N o hr
/-- Both ways say the same. -/
theorem span_oneT (n d : Nat) : span ok kids (d + 1) n = some 0 ↔ (oneT kids (n + 1) = true ∧ depTo kids (n + 1) n ≤ d + 1 ∧ ∀ i, i < n + 1 → ok i = true) := by
  rw [same' (ok := ok) (ok' := ok) (n + 1) (depTo kids (n + 1)) (fun i => depTo_step kids (n + 1) i) (fun _ => True) (fun _ h => h) (fun _ _ h => ⟨h, fun _ _ => trivial⟩) n d (Nat.le_refl _) trivial, run_ok, oneT_iff]
  exact ⟨fun ⟨⟨a, b⟩, c⟩ => ⟨a, c, b⟩, fun ⟨a, c, b⟩ => ⟨⟨a, b⟩, c⟩⟩
end Tr
end Go.Proofs.YtfaeckaeaeadeaaGreatDoor
