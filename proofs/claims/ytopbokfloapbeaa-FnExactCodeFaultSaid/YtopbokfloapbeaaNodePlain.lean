
/- The specification's test of a filter's nodes and the program's say the same: plain. -/
import Derived.Test.YtopbokfloapbeaaNodeFault
import Derived.Test.YtopbokfloapbeaaNodeDepth
namespace Go.Proofs.Ytopbokfloapbeaa
open Go.RowKit Go.Lib Go.Maps
namespace Tr
variable {ok ok' : Nat → Bool} {kids : Nat → List Int}
theorem Fo.le {d lo hi : Nat} {ks : List Int} (h : Fo ok kids d lo hi ks) : lo ≤ hi := by
  induction h with
  | nil => exact Nat.le_refl _
  | snoc d lo m k ks _ _ _ ih1 ih2 => omega
theorem Fo.range {d lo hi : Nat} {ks : List Int} (h : Fo ok kids d lo hi ks) : ∀ k ∈ ks, 0 ≤ k ∧ k < (hi : Int) := by
  induction h with
  | nil => intro k hk; cases hk
  | snoc d lo m k ks h1 _ h3 ih1 _ =>
    intro j hj
    rcases List.mem_append.1 hj with hj | hj
    · have := ih1 j hj
      have := h3.le
      omega
    · obtain rfl : j = (k : Int) := by simpa using hj
      omega
theorem fo_dep' (N : Nat) (dep : Nat → Nat) (hdep : ∀ i, i < N → (∀ k ∈ kids i, 0 ≤ k ∧ k < (i : Int)) → dep i = mx dep (kids i) + 1) {d lo hi : Nat} {ks : List Int} (h : Fo ok kids d lo hi ks) : hi ≤ N → ∀ k ∈ ks, dep k.toNat ≤ d := by
  induction h with
  | nil => intro _ k hk; cases hk
  | snoc d lo m k ks h1 _ h3 ih1 ih2 =>
    intro hN j hj
    have hmk := h3.le
    rcases List.mem_append.1 hj with hj | hj
    · exact ih1 (by omega) j hj
    · obtain rfl : j = (k : Int) := by simpa using hj
      rw [Int.toNat_natCast, hdep k (by omega) h3.range]
      have := (mx_le dep (kids k) d).2 (ih2 (by omega))
      omega
theorem dep_fo' (N : Nat) (dep : Nat → Nat) (hdep : ∀ i, i < N → (∀ k ∈ kids i, 0 ≤ k ∧ k < (i : Int)) → dep i = mx dep (kids i) + 1) {D lo hi : Nat} {ks : List Int} (h : Fo ok kids D lo hi ks) : hi ≤ N → ∀ d, (∀ k ∈ ks, dep k.toNat ≤ d) → Fo ok kids d lo hi ks := by
  induction h with
  | nil => exact fun _ d _ => Fo.nil _ _
  | snoc D lo m k ks h1 h2 h3 ih1 ih2 =>
    intro hN d hd
    have hmk := h3.le
    have hk := hd k (List.mem_append.2 (.inr (List.mem_singleton.2 rfl)))
    rw [Int.toNat_natCast, hdep k (by omega) h3.range] at hk
    obtain ⟨e, rfl⟩ : ∃ e, d = e + 1 := ⟨d - 1, by omega⟩
    exact Fo.snoc e lo m k ks (ih1 (by omega) _ fun j hj => hd j (List.mem_append.2 (.inl hj))) h2 (ih2 (by omega) e ((mx_le dep (kids k) e).1 (by omega)))
theorem same' (N : Nat) (dep : Nat → Nat) (hdep : ∀ i, i < N → (∀ k ∈ kids i, 0 ≤ k ∧ k < (i : Int)) → dep i = mx dep (kids i) + 1) (known : Nat → Prop) (hw : ∀ k, ok k = true → ok' k = true) (hk : ∀ k, known k → ok' k = true → ok k = true ∧ ∀ j ∈ kids k, known j.toNat) (n d : Nat) (hN : n + 1 ≤ N) (hn : known n) :
    span ok kids (d + 1) n = some 0 ↔ (run ok' kids (n + 1) = some [(n : Int)] ∧ dep n ≤ d + 1) := by
  constructor
  · intro h
    obtain ⟨h1, e, he, h2⟩ := span_fo _ _ _ h
    obtain rfl : d = e := by omega
    have hf : Fo ok kids (d + 1) 0 (n + 1) ([] ++ [(n : Int)]) := Fo.snoc d 0 0 n [] (Fo.nil _ _) h1 h2
    refine ⟨by simpa using fo_run (fo_weaken hw hf) [] rfl, ?_⟩
    have := fo_dep' N dep hdep hf hN n (by simp)
    rwa [Int.toNat_natCast] at this
  · rintro ⟨h1, h2⟩
    obtain ⟨D, hD⟩ := run_fo _ _ h1
    have hf := dep_fo' N dep hdep (fo_known known hk hD (by intro k hk'; obtain rfl : k = (n : Int) := by simpa using hk'
                                                            rwa [Int.toNat_natCast])) hN (d + 1) (by intro k hk'; obtain rfl : k = (n : Int) := by simpa using hk'
                                                                                                     rwa [Int.toNat_natCast])
    generalize hl : [(n : Int)] = l at hf
    generalize hh : n + 1 = hi at hf
    generalize hd : d + 1 = dd at hf
    cases hf with
    | nil => cases hl
    | snoc d' lo m k ks h3 h4 h5 =>
      obtain ⟨rfl⟩ : d = d' := by omega
      obtain rfl : n = k := by omega
      obtain rfl : ks = [] := by
        have := congrArg List.length hl
        simp at this
        exact this
      generalize hz : (0 : Nat) = z at h3
      generalize hnil : ([] : List Int) = nl at h3
      cases h3 with
      | nil => exact fo_span d _ n h4 h5
      | snoc => simp at hnil
theorem run_range (n : Nat) (o : List Int) (h : run ok kids n = some o) : ∀ k ∈ o, 0 ≤ k ∧ k < (n : Int) := by
  obtain ⟨d, hd⟩ := run_fo n o h
  exact hd.range
theorem mx_congr (f g : Nat → Nat) (l : List Int) (h : ∀ k ∈ l, f k.toNat = g k.toNat) : mx f l = mx g l := by
  induction l with
  | nil => rfl
  | cons k r ih =>
    simp only [mx]
    rw [h k (List.mem_cons_self ..), ih fun j hj => h j (List.mem_cons_of_mem _ hj)]
end Tr
namespace Fn
def bare (n : Nd) : Bool := all5 (u0 n) (m0 n) (t0 n) (n0 n) (k0 n)
def known (k : Int) : Bool := (decide (1 ≤ k) && decide (k ≤ 11)) || (decide (20 ≤ k) && decide (k ≤ 31))
def right (n : Nd) : Bool := if known n.kind = true then fieldsOk n else bare n
def okP (F : List Nd) (i : Nat) : Bool := (F[i]?.map fun n => right n && kidsOk n.kind (n.kids.map (kindAt F))).getD false
theorem known_iff (k : Int) : known k = true ↔ (1 ≤ k ∧ k ≤ 11) ∨ (20 ≤ k ∧ k ≤ 31) := by simp [known]
theorem fields_known (n : Nd) (h : fieldsOk n = true) : known n.kind = true := by
  rw [known_iff]
  unfold fieldsOk at h
  by_cases h1 : n.kind = 3
  · omega
  · rw [if_neg h1] at h
    by_cases h2 : n.kind = 7 ∨ n.kind = 8 ∨ n.kind = 9 ∨ n.kind = 10
    · omega
    · rw [if_neg h2] at h
      by_cases h3 : n.kind = 11
      · omega
      · rw [if_neg h3] at h
        by_cases h4 : n.kind = 28
        · omega
        · rw [if_neg h4] at h
          by_cases h5 : n.kind = 29 ∨ n.kind = 30
          · omega
          · rw [if_neg h5] at h
            by_cases h6 : n.kind = 25 ∨ n.kind = 26 ∨ n.kind = 27 ∨ n.kind = 31
            · omega
            · rw [if_neg h6] at h
              by_cases h7 : n.kind = 1 ∨ n.kind = 2 ∨ n.kind = 4 ∨ n.kind = 5 ∨ n.kind = 6 ∨ n.kind = 20 ∨ n.kind = 21 ∨ n.kind = 22 ∨ n.kind = 23 ∨ n.kind = 24
              · omega
              · rw [if_neg h7] at h
                cases h
theorem ok_okP (F : List Nd) (k : Nat) (h : ok F k = true) : okP F k = true := by
  unfold ok at h
  unfold okP
  cases hq : F[k]? with
  | none => rw [hq] at h; cases h
  | some n =>
    rw [hq] at h
    simp only [Option.map_some, Option.getD_some, Bool.and_eq_true] at h ⊢
    refine ⟨?_, h.2⟩
    unfold right
    rw [if_pos (fields_known n h.1)]
    exact h.1
theorem kid_known (kind : Int) (i : Nat) (k : Int) (h : kidOk kind i k = true) : known k = true := by
  rw [known_iff]
  unfold kidOk at h
  simp only [isCmd, isTest] at h
  repeat' split at h
  all_goals simp at h
  all_goals omega
theorem kids_known (kind : Int) : ∀ (ks : List Int) (i : Nat), kidsFrom kind i ks = true → ∀ k ∈ ks, known k = true
  | [], _, _, k, hk => by cases hk
  | a :: r, i, h, k, hk => by
    rw [kidsFrom, Bool.and_eq_true] at h
    rcases List.mem_cons.1 hk with rfl | hk
    · exact kid_known kind i _ h.1
    · exact kids_known kind r (i + 1) h.2 k hk
theorem okP_ok (F : List Nd) (k : Nat) (hn : known (kindAt F k) = true) (h : okP F k = true) : ok F k = true ∧ ∀ j ∈ kids F k, known (kindAt F ((j.toNat : Nat) : Int)) = true := by
  unfold okP at h
  unfold ok kids
  unfold kindAt at hn
  rw [Int.toNat_natCast] at hn
  cases hq : F[k]? with
  | none => rw [hq] at h; cases h
  | some n =>
    rw [hq] at h hn
    simp only [Option.map_some, Option.getD_some, Bool.and_eq_true] at h hn ⊢
    obtain ⟨h1, h2⟩ := h
    unfold right at h1
    rw [if_pos hn] at h1
    refine ⟨⟨h1, h2⟩, fun j hj => ?_⟩
    unfold kidsOk at h2
    rw [Bool.and_eq_true] at h2
    have := kids_known n.kind _ 0 h2.1 (kindAt F j) (List.mem_map.2 ⟨j, hj, rfl⟩)
    have e : kindAt F ((j.toNat : Nat) : Int) = kindAt F j := by unfold kindAt; rw [Int.toNat_natCast]
    rw [e]
    exact this
theorem depTo_up (F : List Nd) (i : Nat) : ∀ n, i < n → depTo F n i = depTo F (i + 1) i
  | 0, h => by omega
  | n + 1, h => by
    by_cases hi : i = n
    · rw [hi]
    · rw [← depTo_up F i n (by omega)]
      conv => lhs; unfold depTo
      rw [if_neg hi]
theorem depTo_mid (F : List Nd) (i m n : Nat) (h1 : i < m) (h2 : i < n) : depTo F m i = depTo F n i := by rw [depTo_up F i m h1, depTo_up F i n h2]
theorem depTo_step (F : List Nd) (N i : Nat) (h : i < N) (hk : ∀ k ∈ kids F i, 0 ≤ k ∧ k < (i : Int)) : depTo F N i = Tr.mx (depTo F N) (kids F i) + 1 := by
  rw [depTo_up F i N h]
  conv => lhs; unfold depTo
  rw [if_pos rfl, Tr.mx_congr (depTo F i) (depTo F N) (kids F i) fun k hk' => depTo_mid F _ i N (by have := hk k hk'; omega) (by have := hk k hk'; omega)]
/-- The program's answer. -/
def isF (F : List Nd) : Bool :=
  match Tr.run (okP F) (kids F) F.length with
  | none => false
  | some o => ((o.length : Int) == 1) && ((kindAt F ((F.length : Int) - 1) == 1) && decide ((depTo F F.length (F.length - 1) : Int) ≤ 20))
theorem spV_zero (x : Option Nat) : (Tr.spV x == 0) = true ↔ x = some 0 := by
  cases x with
  | none => simp [Tr.spV]
  | some n => simp [Tr.spV]
theorem good_isF (F : List Nd) (h1 : 1 ≤ F.length) (h2 : F.length ≤ 2000) : good F = isF F := by
  obtain ⟨n, hn⟩ : ∃ n, F.length = n + 1 := ⟨F.length - 1, by omega⟩
  unfold good
  rw [decide_eq_true h1, decide_eq_true h2, Bool.true_and, Bool.true_and, show F.length - 1 = n by omega]
  have hI : (F.length : Int) - 1 = (n : Int) := by omega
  rw [hI]
  by_cases hk : kindAt F n = 1
  · have hs := Tr.same' F.length (depTo F F.length) (fun i => depTo_step F F.length i) (fun i => known (kindAt F i) = true) (ok_okP F) (fun k => okP_ok F k) n 19 (by omega) (by show known _ = true; rw [hk]; rfl)
    have hb : (kindAt F n == 1) = true := by simpa using hk
    rw [hb, Bool.true_and, Bool.eq_iff_iff, spV_zero, hs]
    unfold isF
    rw [hI, hb, Bool.true_and, show F.length - 1 = n by omega]
    constructor
    · rintro ⟨h3, h4⟩
      rw [← hn] at h3
      rw [h3]
      simp only [List.length_singleton]
      rw [decide_eq_true (by omega)]
      rfl
    · intro h3
      cases hr : Tr.run (okP F) (kids F) F.length with
      | none => rw [hr] at h3; cases h3
      | some o =>
        rw [hr] at h3
        simp only [Bool.and_eq_true, beq_iff_eq, decide_eq_true_eq] at h3
        have hr' := hr
        rw [hn] at hr'
        obtain ⟨p, rfl⟩ := Tr.run_last n o hr'
        obtain rfl : p = [] := by
          have := h3.1
          simp at this
          first | exact this | (exact List.length_eq_zero_iff.1 (by omega))
        exact ⟨by simpa using hr', by omega⟩
  · have hb : (kindAt F n == 1) = false := by simpa using hk
    rw [hb, Bool.false_and]
    unfold isF
    rw [hI, hb]
    split
    · rfl
    · rw [Bool.false_and, Bool.and_false]
end Fn
end Go.Proofs.Ytopbokfloapbeaa
