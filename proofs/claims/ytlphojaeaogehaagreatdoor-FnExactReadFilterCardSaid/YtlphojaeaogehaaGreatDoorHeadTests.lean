
/- What is read of a script, plain: every node's kids stand ahead of it, and all is small. -/

/- The tokens of a script, plain: how many, how long, what stands behind each. -/

/- The program's reader of a script, plain: its token at a place, against the specification's tokens. -/

/- The tests for a blank. -/

/- The kinds: none of a line end's bytes; a blank. -/

/- The walks of the two Unfold. -/

/- The tests for a field's name and value. -/
import Derived.Test.YtlphojaeaogehaaGreatDoorRfParse
import Derived.Test.YtlphojaeaogehaaGreatDoorReadPlain
namespace Go.Proofs.YtlphojaeaogehaaGreatDoor
namespace Rf
/-- All texts are small. -/
def Small (T : List Tk) : Prop := ∀ t ∈ T, t.text.length ≤ 10000
set_option maxRecDepth 20000 in
theorem kind_lt {T : List Tk} {i k : Nat} (h : kind T i = k) (hk : k ≠ 120) : i < T.length := by
  by_cases hi : i < T.length
  · exact hi
  · unfold kind at h
    rw [List.getElem?_eq_none (by omega)] at h
    exact absurd h.symm hk
set_option maxRecDepth 20000 in
theorem is_kind {T : List Tk} {i k : Nat} {t : List UInt8} (h : is T i k t = true) : kind T i = k := by
  unfold is at h
  rw [Bool.and_eq_true, beq_iff_eq] at h
  exact h.1
set_option maxRecDepth 20000 in
theorem is_lt {T : List Tk} {i k : Nat} {t : List UInt8} (h : is T i k t = true) (hk : k ≠ 120) : i < T.length := kind_lt (is_kind h) hk
set_option maxRecDepth 20000 in
theorem text_small {T : List Tk} (h : Small T) (i : Nat) : (text T i).length ≤ 10000 := by
  unfold text
  by_cases hi : i < T.length
  · rw [List.getElem?_eq_getElem hi]
    exact h _ (List.getElem_mem hi)
  · rw [List.getElem?_eq_none (by omega)]
    exact Nat.zero_le _
set_option maxRecDepth 20000 in
theorem ba_size (t : List UInt8) : (ba t).size = t.length := by simp [ba, ByteArray.size]
set_option maxRecDepth 20000 in
theorem ba_small {T : List Tk} (h : Small T) (i : Nat) : (ba (text T i)).size ≤ 10000 := by rw [ba_size]; exact text_small h i
structure Nok (T : List Tk) (k : Nat) (n : Nd) : Prop where
  kids : ∀ x ∈ n.kids, 0 ≤ x ∧ x < (k : Int)
  kl : n.kids.length ≤ T.length
  text : n.text.size ≤ 10000
  nl : n.names.length ≤ T.length
  ns : ∀ t ∈ n.names, t.size ≤ 10000
  yl : n.keys.length ≤ T.length
  ys : ∀ t ∈ n.keys, t.size ≤ 10000
def Good (T : List Tk) (N : List Nd) : Prop := ∀ k (h : k < N.length), Nok T k N[k]
set_option maxRecDepth 20000 in
theorem Good.nil (T : List Tk) : Good T [] := fun _ h => absurd h (Nat.not_lt_zero _)
set_option maxRecDepth 20000 in
theorem Good.push {T : List Tk} {N : List Nd} {n : Nd} (h : Good T N) (hn : Nok T N.length n) : Good T (N ++ [n]) := by
  intro k hk
  by_cases hlt : k < N.length
  · rw [List.getElem_append_left hlt]
    exact h k hlt
  · have e : k = N.length := by simp at hk; omega
    subst e
    rw [List.getElem_append_right (Nat.le_refl _)]
    simpa using hn
set_option maxRecDepth 20000 in
theorem nok_zn (T : List Tk) (k : Nat) (z : Int) : Nok T k (zn z) := ⟨fun x h => by simp [zn] at h, by simp [zn], Nat.zero_le _, by simp [zn], fun x h => by simp [zn] at h, by simp [zn], fun x h => by simp [zn] at h⟩
/-- Kids of a node that is put behind N. -/
structure Kok (T : List Tk) (N : List Nd) (ks : List Int) : Prop where
  kids : ∀ x ∈ ks, 0 ≤ x ∧ x < (N.length : Int)
  len : ks.length ≤ T.length
set_option maxRecDepth 20000 in
theorem nok_kids {T : List Tk} {N : List Nd} {n : Nd} {ks : List Int} (h : Kok T N ks) (hn : Nok T N.length n) : Nok T N.length { n with kids := ks } := ⟨h.kids, h.len, hn.text, hn.nl, hn.ns, hn.yl, hn.ys⟩
set_option maxRecDepth 20000 in
theorem last_ok {N N' : List Nd} (h : 0 < N.length) (hl : N.length ≤ N'.length) : 0 ≤ last N ∧ last N < (N'.length : Int) := by unfold last; omega
def Okk (T : List Tk) (P : Nat → List Nd → Out) : Prop := ∀ i N i' N', P i N = .ok i' N' → i < i' ∧ i' ≤ T.length ∧ N.length < N'.length ∧ (Good T N → Good T N')
set_option maxRecDepth 20000 in
theorem push_len (N : List Nd) (n : Nd) : (N ++ [n]).length = N.length + 1 := by simp
set_option maxRecDepth 20000 in
theorem tail_ok {T : List Tk} (hS : Small T) : ∀ (f i : Nat) (L : List ByteArray) (j : Nat) (M : List ByteArray), txtsTail T f i L = .ok j M → L.length ≤ i → (∀ t ∈ L, t.size ≤ 10000) → i < j ∧ j ≤ T.length ∧ M.length ≤ j ∧ ∀ t ∈ M, t.size ≤ 10000
  | 0, i, L, j, M, h, _, _ => by simp [txtsTail] at h
  | f + 1, i, L, j, M, h, hl, hs => by
    rw [txtsTail] at h
    split at h
    · split at h
      · have := tail_ok hS f (i + 2) _ j M h (by simp; omega) (fun t ht => by
          rcases List.mem_append.1 ht with ht | ht
          · exact hs t ht
          · simp only [List.mem_cons, List.not_mem_nil, or_false] at ht
            subst ht
            exact ba_small hS _)
        exact ⟨by omega, this.2⟩
      · cases h
    · split at h
      · rename_i hy
        have := is_lt hy (by decide)
        cases h
        exact ⟨by omega, by omega, by omega, hs⟩
      · cases h
set_option maxRecDepth 20000 in
theorem txts_ok {T : List Tk} (hS : Small T) (i j : Nat) (M : List ByteArray) (h : txts T i = .ok j M) : i < j ∧ j ≤ T.length ∧ M.length ≤ T.length ∧ ∀ t ∈ M, t.size ≤ 10000 := by
  have one : ∀ k, ∀ t ∈ [ba (text T k)], t.size ≤ 10000 := fun k t ht => by
    simp only [List.mem_cons, List.not_mem_nil, or_false] at ht
    subst ht
    exact ba_small hS _
  unfold txts at h
  split at h
  · split at h
    · have := tail_ok hS _ _ _ j M h (by simp) (one _)
      exact ⟨by omega, by omega, by omega, this.2.2.2⟩
    · cases h
  · split at h
    · rename_i hk
      have := kind_lt (by simpa using hk) (by decide)
      cases h
      exact ⟨by omega, by omega, by simp; omega, one _⟩
    · cases h
set_option maxRecDepth 20000 in
theorem tsts_ok {T : List Tk} {t : Nat → List Nd → Out} (ht : Okk T t) : ∀ (f i : Nat) (N : List Nd) (ks : List Int) (j : Nat) (N' : List Nd) (ks' : List Int), tsts T t f i N ks = .ok j N' ks' → ks.length ≤ i → (∀ x ∈ ks, 0 ≤ x ∧ x < (N.length : Int)) → i < j ∧ j ≤ T.length ∧ N.length ≤ N'.length ∧ (Good T N → Good T N') ∧ Kok T N' ks'
  | 0, i, N, ks, j, N', ks', h, _, _ => by simp [tsts] at h
  | f + 1, i, N, ks, j, N', ks', h, hl, hk => by
    rw [tsts] at h
    split at h
    · cases he : t (i + 1) N with
      | bad q => rw [he] at h; cases h
      | ok q Q =>
        rw [he] at h
        obtain ⟨a1, a2, a3, a4⟩ := ht _ _ _ _ he
        have := tsts_ok ht f q Q _ j N' ks' h (by simp; omega) (fun x hx => by
          rcases List.mem_append.1 hx with hx | hx
          · have := hk x hx; omega
          · simp only [List.mem_cons, List.not_mem_nil, or_false] at hx
            subst hx
            exact last_ok (by omega) (Nat.le_refl _))
        exact ⟨by omega, this.2.1, by omega, fun hg => this.2.2.2.1 (a4 hg), this.2.2.2.2⟩
    · split at h
      · rename_i hy
        have := is_lt hy (by decide)
        cases h
        exact ⟨by omega, by omega, Nat.le_refl _, id, hk, by omega⟩
      · cases h
set_option maxRecDepth 20000 in
theorem cmds_ok {T : List Tk} {c : Nat → List Nd → Out} (hc : Okk T c) : ∀ (f i : Nat) (N : List Nd) (ks : List Int) (j : Nat) (N' : List Nd) (ks' : List Int), cmds T c f i N ks = .ok j N' ks' → ks.length ≤ i → (∀ x ∈ ks, 0 ≤ x ∧ x < (N.length : Int)) → i < j ∧ j ≤ T.length ∧ N.length ≤ N'.length ∧ (Good T N → Good T N') ∧ Kok T N' ks'
  | 0, i, N, ks, j, N', ks', h, _, _ => by simp [cmds] at h
  | f + 1, i, N, ks, j, N', ks', h, hl, hk => by
    rw [cmds] at h
    split at h
    · rename_i hy
      have := is_lt hy (by decide)
      cases h
      exact ⟨by omega, by omega, Nat.le_refl _, id, hk, by omega⟩
    · cases he : c i N with
      | bad q => rw [he] at h; cases h
      | ok q Q =>
        rw [he] at h
        obtain ⟨a1, a2, a3, a4⟩ := hc _ _ _ _ he
        have := cmds_ok hc f q Q _ j N' ks' h (by simp; omega) (fun x hx => by
          rcases List.mem_append.1 hx with hx | hx
          · have := hk x hx; omega
          · simp only [List.mem_cons, List.not_mem_nil, or_false] at hx
            subst hx
            exact last_ok (by omega) (Nat.le_refl _))
        exact ⟨by omega, this.2.1, by omega, fun hg => this.2.2.2.1 (a4 hg), this.2.2.2.2⟩
set_option maxRecDepth 20000 in
theorem all_ok {T : List Tk} {c : Nat → List Nd → Out} (hc : Okk T c) : ∀ (f i : Nat) (N : List Nd) (ks : List Int) (j : Nat) (N' : List Nd) (ks' : List Int), all T c f i N ks = .ok j N' ks' → ks.length ≤ i → i ≤ T.length → (∀ x ∈ ks, 0 ≤ x ∧ x < (N.length : Int)) → j ≤ T.length ∧ N.length ≤ N'.length ∧ (Good T N → Good T N') ∧ Kok T N' ks'
  | 0, i, N, ks, j, N', ks', h, _, _, _ => by simp [all] at h
  | f + 1, i, N, ks, j, N', ks', h, hl, hi, hk => by
    rw [all] at h
    split at h
    · cases h
      exact ⟨hi, Nat.le_refl _, id, hk, by omega⟩
    · cases he : c i N with
      | bad q => rw [he] at h; cases h
      | ok q Q =>
        rw [he] at h
        obtain ⟨a1, a2, a3, a4⟩ := hc _ _ _ _ he
        have := all_ok hc f q Q _ j N' ks' h (by simp; omega) a2 (fun x hx => by
          rcases List.mem_append.1 hx with hx | hx
          · have := hk x hx; omega
          · simp only [List.mem_cons, List.not_mem_nil, or_false] at hx
            subst hx
            exact last_ok (by omega) (Nat.le_refl _))
        exact ⟨this.1, by omega, fun hg => this.2.2.1 (a4 hg), this.2.2.2⟩
set_option maxRecDepth 20000 in
theorem blk_ok {T : List Tk} {c : Nat → List Nd → Out} (hc : Okk T c) : Okk T (blk T c) := by
  intro i N i' N' h
  unfold blk at h
  split at h
  · cases he : cmds T c T.length (i + 1) N [] with
    | bad q => rw [he] at h; cases h
    | ok q Q ks =>
      rw [he] at h
      cases h
      have := cmds_ok hc _ _ _ _ _ _ _ he (by simp) (fun x hx => by simp at hx)
      refine ⟨by omega, this.2.1, by rw [push_len]; omega, fun hg => (this.2.2.2.1 hg).push (nok_kids this.2.2.2.2 (nok_zn _ _ _))⟩
  · cases h
set_option maxRecDepth 20000 in
theorem three {T : List Tk} {N1 N2 N3 : List Nd} {ks : List Int} (h1 : 0 < N1.length) (h2 : N1.length ≤ N2.length) (h3 : N2.length ≤ N3.length) (hT : ks.length ≤ T.length) (hk : ∀ x ∈ ks, x = last N1 ∨ x = last N2 ∨ x = last N3) : Kok T N3 ks := by
  refine ⟨fun x hx => ?_, hT⟩
  rcases hk x hx with rfl | rfl | rfl
  · exact last_ok h1 (by omega)
  · exact last_ok (by omega) h3
  · exact last_ok (by omega) (Nat.le_refl _)
set_option maxRecDepth 20000 in
theorem tst_ok {T : List Tk} (hS : Small T) {t : Nat → List Nd → Out} (ht : Okk T t) : Okk T (tst T t) := by
  intro i N i' N' h
  unfold tst at h
  split at h
  · rename_i hw
    have hiT : i < T.length := kind_lt (k := 119) (by rw [Bool.and_eq_true, beq_iff_eq] at hw; exact hw.1) (by decide)
    dsimp only at h
    split at h
    · cases he : t (i + 1) N with
      | bad q => rw [he] at h; cases h
      | ok q Q =>
        rw [he] at h
        cases h
        obtain ⟨a1, a2, a3, a4⟩ := ht _ _ _ _ he
        refine ⟨by omega, a2, by rw [push_len]; omega, fun hg => (a4 hg).push (nok_kids ⟨fun x hx => ?_, by simp; omega⟩ (nok_zn _ _ _))⟩
        simp only [List.mem_cons, List.not_mem_nil, or_false] at hx
        subst hx
        exact last_ok (by omega) (Nat.le_refl _)
    · split at h
      · split at h
        · cases he : t (i + 2) N with
          | bad q => rw [he] at h; cases h
          | ok q Q =>
            rw [he] at h
            dsimp only at h
            obtain ⟨a1, a2, a3, a4⟩ := ht _ _ _ _ he
            cases he2 : tsts T t T.length q Q [last Q] with
            | bad q2 => rw [he2] at h; cases h
            | ok q2 Q2 ks =>
              rw [he2] at h
              cases h
              have := tsts_ok ht _ _ _ _ _ _ _ he2 (by simp; omega) (fun x hx => by
                simp only [List.mem_cons, List.not_mem_nil, or_false] at hx
                subst hx
                exact last_ok (by omega) (Nat.le_refl _))
              exact ⟨by omega, this.2.1, by rw [push_len]; omega, fun hg => (this.2.2.2.1 (a4 hg)).push (nok_kids this.2.2.2.2 (nok_zn _ _ _))⟩
        · cases h
      · split at h
        · split at h
          · split at h
            · rename_i i1 A he1
              split at h
              · rename_i i2 B he2
                cases h
                have b1 := txts_ok hS _ _ _ he1
                have b2 := txts_ok hS _ _ _ he2
                have hz := nok_zn T N.length (tstK (text T i))
                exact ⟨by omega, by omega, by rw [push_len]; omega, fun hg => hg.push ⟨hz.kids, hz.kl, hz.text, b1.2.2.1, b1.2.2.2, b2.2.2.1, b2.2.2.2⟩⟩
              · cases h
            · cases h
          · cases h
        · split at h
          · split at h
            · rename_i i1 A he1
              cases h
              have b1 := txts_ok hS _ _ _ he1
              have hz := nok_zn T N.length 28
              exact ⟨by omega, by omega, by rw [push_len]; omega, fun hg => hg.push ⟨hz.kids, hz.kl, hz.text, b1.2.2.1, b1.2.2.2, hz.yl, hz.ys⟩⟩
            · cases h
          · split at h
            · split at h
              · split at h
                · rename_i hk2
                  have hk3 : i + 2 < T.length := kind_lt (k := 110) (by rw [Bool.and_eq_true, beq_iff_eq] at hk2; exact hk2.1) (by decide)
                  cases h
                  have hz := nok_zn T N.length (if is T (i + 1) 58 wUnder then 30 else 29)
                  exact ⟨by omega, by omega, by rw [push_len]; omega, fun hg => hg.push ⟨hz.kids, hz.kl, hz.text, hz.nl, hz.ns, hz.yl, hz.ys⟩⟩
                · cases h
              · cases h
            · cases h
              exact ⟨by omega, by omega, by rw [push_len]; omega, fun hg => hg.push (nok_zn _ _ _)⟩
  · cases h
set_option maxRecDepth 20000 in
theorem cho_ok {T : List Tk} {t c : Nat → List Nd → Out} (ht : Okk T t) (hc : Okk T c) : ∀ f, Okk T (cho T t c f)
  | 0 => fun i N i' N' h => by simp [cho] at h
  | f + 1 => by
    intro i N i' N' h
    rw [cho] at h
    cases he : t i N with
    | bad q => rw [he] at h; cases h
    | ok i1 N1 =>
      rw [he] at h
      dsimp only at h
      obtain ⟨a1, a2, a3, a4⟩ := ht _ _ _ _ he
      cases he2 : blk T c i1 N1 with
      | bad q => rw [he2] at h; cases h
      | ok i2 N2 =>
        rw [he2] at h
        dsimp only at h
        obtain ⟨b1, b2, b3, b4⟩ := blk_ok hc _ _ _ _ he2
        split at h
        · cases he3 : cho T t c f (i2 + 1) N2 with
          | bad q => rw [he3] at h; cases h
          | ok i3 N3 =>
            rw [he3] at h
            cases h
            obtain ⟨c1, c2, c3, c4⟩ := cho_ok ht hc f _ _ _ _ he3
            exact ⟨by omega, c2, by rw [push_len]; omega, fun hg => (c4 (b4 (a4 hg))).push (nok_kids (three (N1 := N1) (N2 := N2) (by omega) (by omega) (by omega) (by simp; omega) (fun x hx => by simpa using hx)) (nok_zn _ _ _))⟩
        · split at h
          · cases he3 : blk T c (i2 + 1) N2 with
            | bad q => rw [he3] at h; cases h
            | ok i3 N3 =>
              rw [he3] at h
              cases h
              obtain ⟨c1, c2, c3, c4⟩ := blk_ok hc _ _ _ _ he3
              exact ⟨by omega, c2, by rw [push_len]; omega, fun hg => (c4 (b4 (a4 hg))).push (nok_kids (three (N1 := N1) (N2 := N2) (by omega) (by omega) (by omega) (by simp; omega) (fun x hx => by simpa using hx)) (nok_zn _ _ _))⟩
          · cases h
            exact ⟨by omega, b2, by rw [push_len]; omega, fun hg => (b4 (a4 hg)).push (nok_kids (three (N1 := N1) (N2 := N2) (by omega) (by omega) (Nat.le_refl _) (by simp; omega) (fun x hx => by
              simp only [List.mem_cons, List.not_mem_nil, or_false] at hx
              rcases hx with hx | hx
              · exact .inl hx
              · exact .inr (.inl hx))) (nok_zn _ _ _))⟩
set_option maxRecDepth 20000 in
theorem cmd_ok {T : List Tk} (hS : Small T) {t c : Nat → List Nd → Out} (ht : Okk T t) (hc : Okk T c) : Okk T (cmd T t c) := by
  intro i N i' N' h
  unfold cmd at h
  split at h
  · rename_i hw
    have hiT : i < T.length := kind_lt (by simpa using hw) (by decide)
    split at h
    · obtain ⟨a1, a2, a3, a4⟩ := cho_ok ht hc _ _ _ _ _ h
      exact ⟨by omega, a2, a3, a4⟩
    · split at h
      · split at h
        · cases he : blk T c (i + 2) N with
          | bad q => rw [he] at h; cases h
          | ok q Q =>
            rw [he] at h
            cases h
            obtain ⟨a1, a2, a3, a4⟩ := blk_ok hc _ _ _ _ he
            have hz := nok_zn T Q.length 3
            refine ⟨by omega, a2, by rw [push_len]; omega, fun hg => (a4 hg).push ⟨fun x hx => ?_, by simp; omega, hz.text, hz.nl, hz.ns, hz.yl, hz.ys⟩⟩
            simp only [List.mem_cons, List.not_mem_nil, or_false] at hx
            subst hx
            exact last_ok (by omega) (Nat.le_refl _)
        · cases h
      · split at h
        · split at h
          · split at h
            · split at h
              · rename_i hy
                have := is_lt hy (by decide)
                cases h
                have hz := nok_zn T N.length 11
                refine ⟨by omega, by omega, by rw [push_len]; omega, fun hg => hg.push ⟨hz.kids, hz.kl, ba_small hS _, by simp; omega, fun x hx => ?_, hz.yl, hz.ys⟩⟩
                simp only [List.mem_cons, List.not_mem_nil, or_false] at hx
                subst hx
                exact ba_small hS _
              · cases h
            · cases h
          · cases h
        · split at h
          · cases h
          · split at h
            · split at h
              · split at h
                · rename_i hy
                  have := is_lt hy (by decide)
                  cases h
                  have hz := nok_zn T N.length (cmdK (text T i))
                  exact ⟨by omega, by omega, by rw [push_len]; omega, fun hg => hg.push ⟨hz.kids, hz.kl, ba_small hS _, hz.nl, hz.ns, hz.yl, hz.ys⟩⟩
                · cases h
              · cases h
            · split at h
              · rename_i hy
                have := is_lt hy (by decide)
                cases h
                exact ⟨by omega, by omega, by rw [push_len]; omega, fun hg => hg.push (nok_zn _ _ _)⟩
              · cases h
  · cases h
set_option maxRecDepth 20000 in
theorem lv_ok {T : List Tk} (hS : Small T) : ∀ f, Okk T (lv T f).1 ∧ Okk T (lv T f).2
  | 0 => ⟨fun i N i' N' h => by simp [lv] at h, fun i N i' N' h => by simp [lv] at h⟩
  | f + 1 => by
    obtain ⟨h1, h2⟩ := lv_ok hS f
    exact ⟨tst_ok hS h1, cmd_ok hS h1 h2⟩
set_option maxRecDepth 20000 in
theorem script_ok {T : List Tk} (hS : Small T) {i : Nat} {N : List Nd} (h : script T = .ok i N) : Good T N ∧ 0 < N.length := by
  unfold script at h
  cases he : all T (lv T T.length).2 T.length 0 [] [] with
  | bad q => rw [he] at h; cases h
  | ok q Q ks =>
    rw [he] at h
    cases h
    have := all_ok (lv_ok hS T.length).2 _ _ _ _ _ _ _ he (by simp) (by omega) (fun x hx => by simp at hx)
    exact ⟨(this.2.2.1 (Good.nil T)).push (nok_kids this.2.2.2 (nok_zn _ _ _)), by simp⟩
end Rf
end Go.Proofs.YtlphojaeaogehaaGreatDoor
namespace Go.Proofs.YtlphojaeaogehaaGreatDoor
namespace Rf
set_option maxRecDepth 20000 in
theorem cut_len (l : List UInt8) (i j : Nat) : (cut l i j).length ≤ l.length := by
  unfold cut
  rw [List.length_drop, List.length_take]
  omega
set_option maxRecDepth 20000 in
theorem cut_exact (l : List UInt8) (i j : Nat) (h : j ≤ l.length) : (cut l i j).length = j - i := by
  unfold cut
  rw [List.length_drop, List.length_take]
  omega
set_option maxRecDepth 20000 in
theorem cut_get (l : List UInt8) (i j k : Nat) (hj : j ≤ l.length) (hk : k < (cut l i j).length) : (cut l i j)[k] = Pl.b l (i + k) := by
  have h1 := cut_exact l i j hj
  have h2 : i + k < l.length := by omega
  rw [Pl.b_lt l (i + k) h2]
  simp [cut]
set_option maxRecDepth 20000 in
theorem tok_small (l : List UInt8) (p : Nat) (h : p < l.length) : (tok l p).2.1.length ≤ l.length := by
  unfold tok
  dsimp only
  split
  · exact cut_len _ _ _
  · split
    · split
      · exact cut_len _ _ _
      · exact Nat.zero_le _
    · split
      · split
        · exact cut_len _ _ _
        · exact Nat.zero_le _
      · split
        · cases hq : qd (l.drop (p + 1)) with
          | none => exact Nat.zero_le _
          | some x =>
            obtain ⟨t, k⟩ := x
            have := qd_pos _ _ _ hq
            rw [List.length_drop] at this
            dsimp only
            split
            · dsimp only; omega
            · exact Nat.zero_le _
        · split
          · simp; omega
          · exact Nat.zero_le _
set_option maxRecDepth 20000 in
theorem tok_num (l : List UInt8) (p : Nat) (h : p < l.length) (hk : (tok l p).1 = 110) : 1 ≤ (tok l p).2.1.length ∧ (tok l p).2.1.length ≤ 9 ∧ (tok l p).2.1.all digK = true := by
  unfold tok at hk ⊢
  dsimp only at hk ⊢
  split
  · rename_i h1
    rw [if_pos h1] at hk
    cases hk
  · rename_i h1
    rw [if_neg h1] at hk
    split
    · rename_i h2
      rw [if_pos h2] at hk
      split at hk <;> cases hk
    · rename_i h2
      rw [if_neg h2] at hk
      split
      · rename_i h3
        rw [if_pos h3] at hk
        have g1 := Pl.stop_ge digK l p (by omega)
        have g2 := Pl.stop_le digK l p (by omega)
        have g3 : p < Pl.stop digK l p := by
          rcases Nat.lt_or_ge p (Pl.stop digK l p) with h4 | h4
          · exact h4
          · have e : Pl.stop digK l p = p := by omega
            have := Pl.stop_not digK l p (by omega) (by omega)
            rw [e, h3] at this
            cases this
        split
        · rename_i h4
          dsimp only
          have e := cut_exact l p (Pl.stop digK l p) g2
          refine ⟨by omega, by omega, ?_⟩
          rw [List.all_eq_true]
          intro x hx
          obtain ⟨k, hk2, rfl⟩ := List.getElem_of_mem hx
          rw [cut_get l p _ k g2 hk2]
          exact Pl.stop_all digK l p (by omega) (p + k) (by omega) (by omega)
        · rename_i h4
          rw [if_neg h4] at hk
          cases hk
      · rename_i h3
        rw [if_neg h3] at hk
        split at hk
        · cases hq : qd (l.drop (p + 1)) with
          | none => rw [hq] at hk; cases hk
          | some x =>
            rw [hq] at hk
            dsimp only at hk
            split at hk <;> cases hk
        · split at hk <;> cases hk
structure Tok1 (l : List UInt8) (T : List Tk) : Prop where
  pos : 0 < T.length
  nxt : ∀ k (h : k < T.length), T[k].kind ≠ 101 → T[k].kind ≠ 120 → k + 1 < T.length
  small : ∀ t ∈ T, t.text.length ≤ l.length
  num : ∀ t ∈ T, t.kind = 110 → 1 ≤ t.text.length ∧ t.text.length ≤ 9 ∧ t.text.all digK = true
  place : ∀ t ∈ T, t.pos ≤ l.length
set_option maxRecDepth 20000 in
theorem toks_one (l : List UInt8) : ∀ (f i : Nat), i ≤ l.length → l.length - i < f → Tok1 l (toks l f i) ∧ (toks l f i).length ≤ l.length - i + 1
  | 0, i, hi, hf => absurd hf (Nat.not_lt_zero _)
  | f + 1, i, hi, hf => by
    have hg := gap_ge l i
    have hg2 := gap_le l i hi
    rw [toks]
    split
    · rename_i hp
      split
      · refine ⟨⟨by simp, ?_, ?_, ?_, ?_⟩, by simp⟩
        · intro k hk h1 h2
          have e : k = 0 := by simp at hk; omega
          subst e
          exact absurd rfl h2
        · intro t ht
          simp only [List.mem_cons, List.not_mem_nil, or_false] at ht
          subst ht
          exact Nat.zero_le _
        · intro t ht hk
          simp only [List.mem_cons, List.not_mem_nil, or_false] at ht
          subst ht
          cases hk
        · intro t ht
          simp only [List.mem_cons, List.not_mem_nil, or_false] at ht
          subst ht
          exact hg2
      · rename_i hk
        obtain ⟨n1, n2⟩ := tok_next l _ hp hk
        obtain ⟨ih, il⟩ := toks_one l f (tok l (gap l i)).2.2 n2 (by omega)
        refine ⟨⟨by simp, ?_, ?_, ?_, ?_⟩, by simp; omega⟩
        · intro k hk h1 h2
          have := ih.pos
          cases k with
          | zero => simp; omega
          | succ k =>
            have := ih.nxt k (by simpa using hk) (by simpa using h1) (by simpa using h2)
            simp
            omega
        · intro t ht
          rcases List.mem_cons.1 ht with rfl | ht
          · exact tok_small l _ hp
          · exact ih.small t ht
        · intro t ht hk
          rcases List.mem_cons.1 ht with rfl | ht
          · exact tok_num l _ hp hk
          · exact ih.num t ht hk
        · intro t ht
          rcases List.mem_cons.1 ht with rfl | ht
          · exact hg2
          · exact ih.place t ht
    · refine ⟨⟨by simp, ?_, ?_, ?_, ?_⟩, by simp⟩
      · intro k hk h1 h2
        have e : k = 0 := by simp at hk; omega
        subst e
        exact absurd rfl h1
      · intro t ht
        simp only [List.mem_cons, List.not_mem_nil, or_false] at ht
        subst ht
        exact Nat.zero_le _
      · intro t ht hk
        simp only [List.mem_cons, List.not_mem_nil, or_false] at ht
        subst ht
        cases hk
      · intro t ht
        simp only [List.mem_cons, List.not_mem_nil, or_false] at ht
        subst ht
        exact Nat.le_refl _
/-- All tokens. -/
def tk (l : List UInt8) : List Tk := toks l (l.length + 1) 0
set_option maxRecDepth 20000 in
theorem tk_one (l : List UInt8) : Tok1 l (tk l) ∧ (tk l).length ≤ l.length + 1 := by
  have := toks_one l (l.length + 1) 0 (Nat.zero_le _) (by omega)
  exact ⟨this.1, by have := this.2; unfold tk; omega⟩
/-- Long lists among the nodes. -/
def long (n : Nd) : Bool := decide (100 < n.names.length) || decide (100 < n.keys.length)
end Rf
end Go.Proofs.YtlphojaeaogehaaGreatDoor
namespace Go.Proofs.YtlphojaeaogehaaGreatDoor
namespace Rf
/-- The program's token at a place: its kind, its text, the place behind it; none: a fault. -/
def ptk (l : List UInt8) (p : Nat) : Option (Nat × List UInt8 × Nat) :=
  if Pl.b l p == 34 then
    match qd (l.drop (p + 1)) with
    | some (t, k) => if t.length ≤ 1000 then some (3, t, p + 1 + k) else none
    | none => none
  else if digK (Pl.b l p) then (if Pl.stop digK l p - p ≤ 9 then some (2, cut l p (Pl.stop digK l p), Pl.stop digK l p) else none)
  else if lowK (Pl.b l p) then some (1, cut l p (Pl.stop lowK l p), Pl.stop lowK l p)
  else if Pl.b l p == 58 then some (1, cut l p (Pl.stop lowK l (p + 1)), Pl.stop lowK l (p + 1))
  else some (1, [Pl.b l p], p + 1)
/-- Of which kind a word is, by its first byte. -/
def cls : List UInt8 → Nat
  | [] => 120
  | c :: r => if lowK c then 119 else if c == 58 then (if r.isEmpty then 120 else 58) else if isSign c then 112 else 120
set_option maxRecDepth 20000 in
theorem cut_cons (l : List UInt8) (p q : Nat) (h : p < q) (hq : q ≤ l.length) : cut l p q = Pl.b l p :: cut l (p + 1) q := by
  have hp : p < l.length := by omega
  unfold cut
  rw [Pl.b_lt l p hp, List.drop_eq_getElem_cons (by rw [List.length_take]; omega)]
  simp
set_option maxRecDepth 20000 in
theorem byte_ne {c d : UInt8} {K : UInt8 → Bool} (h : K c = true) (hd : K d = false) : (c == d) = false := by
  rw [beq_eq_false_iff_ne]
  rintro rfl
  rw [h] at hd
  cases hd
set_option maxRecDepth 20000 in
theorem low_not {c : UInt8} (h : lowK c = true) : (c == 34) = false ∧ digK c = false ∧ (c == 58) = false ∧ isSign c = false := by
  refine ⟨byte_ne h (by decide), ?_, byte_ne h (by decide), ?_⟩
  · unfold lowK at h
    unfold digK
    simp only [Bool.and_eq_true, decide_eq_true_eq, Bool.and_eq_false_iff, decide_eq_false_iff_not] at h ⊢
    omega
  · unfold isSign
    rw [byte_ne h (d := 123) (by decide), byte_ne h (d := 125) (by decide), byte_ne h (d := 40) (by decide), byte_ne h (d := 41) (by decide), byte_ne h (d := 91) (by decide), byte_ne h (d := 93) (by decide), byte_ne h (d := 44) (by decide), byte_ne h (d := 59) (by decide)]
    rfl
set_option maxRecDepth 20000 in
theorem dig_not {c : UInt8} (h : digK c = true) : (c == 34) = false ∧ lowK c = false ∧ (c == 58) = false ∧ isSign c = false := by
  refine ⟨byte_ne h (by decide), ?_, byte_ne h (by decide), ?_⟩
  · unfold digK at h
    unfold lowK
    simp only [Bool.and_eq_true, decide_eq_true_eq, Bool.and_eq_false_iff, decide_eq_false_iff_not] at h ⊢
    omega
  · unfold isSign
    rw [byte_ne h (d := 123) (by decide), byte_ne h (d := 125) (by decide), byte_ne h (d := 40) (by decide), byte_ne h (d := 41) (by decide), byte_ne h (d := 91) (by decide), byte_ne h (d := 93) (by decide), byte_ne h (d := 44) (by decide), byte_ne h (d := 59) (by decide)]
    rfl
set_option maxRecDepth 20000 in
theorem stop_over (K : UInt8 → Bool) (l : List UInt8) (p : Nat) (h : p < l.length) (hK : K (Pl.b l p) = true) : p < Pl.stop K l p := by
  have h1 := Pl.stop_ge K l p (by omega)
  rcases Nat.lt_or_ge p (Pl.stop K l p) with h3 | h3
  · exact h3
  · have e : Pl.stop K l p = p := by omega
    have := Pl.stop_not K l p (by omega) (by omega)
    rw [e, hK] at this
    cases this
set_option maxRecDepth 20000 in
theorem ptk_none (l : List UInt8) (p : Nat) (h : ptk l p = none) : (tok l p).1 = 120 := by
  unfold ptk at h
  unfold tok
  dsimp only
  split at h
  · rename_i h34
    have e : Pl.b l p = 34 := by simpa using h34
    rw [e]
    rw [if_neg (by decide), if_neg (by decide), if_neg (by decide), if_pos (by decide)]
    cases hq : qd (l.drop (p + 1)) with
    | none => rfl
    | some x =>
      obtain ⟨t, k⟩ := x
      rw [hq] at h
      dsimp only at h ⊢
      split at h
      · cases h
      · rename_i hn
        rw [if_neg hn]
  · split at h
    · rename_i hd
      obtain ⟨-, d2, d3, -⟩ := dig_not hd
      rw [if_neg (by rw [d2]; decide), if_neg (by rw [d3]; decide), if_pos hd]
      split at h
      · cases h
      · rename_i hn
        rw [if_neg hn]
    · split at h
      · cases h
      · split at h <;> cases h
set_option maxRecDepth 20000 in
theorem ptk_some (l : List UInt8) (p kd : Nat) (x : List UInt8) (a : Nat) (hp : p < l.length) (h : ptk l p = some (kd, x, a)) : a ≤ l.length ∧ x.length ≤ l.length ∧ ((kd = 1 ∧ (tok l p).1 = cls x ∧ (cls x ≠ 120 → tok l p = (cls x, x, a))) ∨ (kd = 2 ∧ tok l p = (110, x, a)) ∨ (kd = 3 ∧ tok l p = (116, x, a))) := by
  unfold ptk at h
  split at h
  · rename_i h34
    have e : Pl.b l p = 34 := by simpa using h34
    cases hq : qd (l.drop (p + 1)) with
    | none => rw [hq] at h; cases h
    | some y =>
      obtain ⟨t, k⟩ := y
      rw [hq] at h
      dsimp only at h
      split at h
      · rename_i ht
        cases h
        have := qd_pos _ _ _ hq
        rw [List.length_drop] at this
        refine ⟨by omega, by omega, .inr (.inr ⟨rfl, ?_⟩)⟩
        unfold tok
        dsimp only
        rw [e, if_neg (by decide), if_neg (by decide), if_neg (by decide), if_pos (by decide), hq]
        dsimp only
        rw [if_pos ht]
      · cases h
  · rename_i h34
    split at h
    · rename_i hd
      obtain ⟨-, d2, d3, -⟩ := dig_not hd
      split at h
      · rename_i h9
        cases h
        have h2 := Pl.stop_le digK l p (by omega)
        refine ⟨h2, cut_len _ _ _, .inr (.inl ⟨rfl, ?_⟩)⟩
        unfold tok
        dsimp only
        rw [if_neg (by rw [d2]; decide), if_neg (by rw [d3]; decide), if_pos hd, if_pos h9]
      · cases h
    · rename_i hd
      split at h
      · rename_i hl
        cases h
        have h1 := stop_over lowK l p hp hl
        have h2 := Pl.stop_le lowK l p (by omega)
        have hc : cls (cut l p (Pl.stop lowK l p)) = 119 := by rw [cut_cons l p _ h1 h2, cls, if_pos hl]
        have ht : tok l p = (119, cut l p (Pl.stop lowK l p), Pl.stop lowK l p) := by unfold tok; dsimp only; rw [if_pos hl]
        exact ⟨h2, cut_len _ _ _, .inl ⟨rfl, by rw [ht, hc], fun _ => by rw [hc, ht]⟩⟩
      · rename_i hl
        split at h
        · rename_i h58
          have e : Pl.b l p = 58 := by simpa using h58
          cases h
          have h1 := Pl.stop_ge lowK l (p + 1) (by omega)
          have h2 := Pl.stop_le lowK l (p + 1) (by omega)
          have hcc := cut_cons l p (Pl.stop lowK l (p + 1)) (by omega) h2
          by_cases hq : p + 1 < Pl.stop lowK l (p + 1)
          · have ht : tok l p = (58, cut l p (Pl.stop lowK l (p + 1)), Pl.stop lowK l (p + 1)) := by unfold tok; dsimp only; rw [e, if_neg (by decide), if_pos (by decide), if_pos hq]
            have hne : (cut l (p + 1) (Pl.stop lowK l (p + 1))).isEmpty = false := by
              rw [cut_cons l (p + 1) _ hq h2]
              rfl
            have hc : cls (cut l p (Pl.stop lowK l (p + 1))) = 58 := by rw [hcc, cls, e, if_neg (by decide), if_pos (by decide), hne]; rfl
            exact ⟨h2, cut_len _ _ _, .inl ⟨rfl, by rw [ht, hc], fun _ => by rw [hc, ht]⟩⟩
          · have ht : (tok l p).1 = 120 := by unfold tok; dsimp only; rw [e, if_neg (by decide), if_pos (by decide), if_neg hq]
            have hce : cut l (p + 1) (Pl.stop lowK l (p + 1)) = [] := by
              have := cut_exact l (p + 1) (Pl.stop lowK l (p + 1)) h2
              exact List.eq_nil_of_length_eq_zero (by omega)
            have hc : cls (cut l p (Pl.stop lowK l (p + 1))) = 120 := by rw [hcc, cls, e, hce]; rfl
            exact ⟨h2, cut_len _ _ _, .inl ⟨rfl, by rw [ht, hc], fun hn => absurd hc hn⟩⟩
        · rename_i h58
          cases h
          refine ⟨by omega, by simp; omega, .inl ⟨rfl, ?_, ?_⟩⟩
          · unfold tok
            dsimp only
            rw [if_neg hl, if_neg h58, if_neg hd, if_neg h34]
            show _ = if lowK (Pl.b l p) = true then 119 else if (Pl.b l p == 58) = true then _ else if isSign (Pl.b l p) = true then 112 else 120
            rw [if_neg hl, if_neg h58]
            split <;> rfl
          · intro hn
            have hc : cls [Pl.b l p] = if isSign (Pl.b l p) = true then 112 else 120 := by
              show (if lowK (Pl.b l p) = true then 119 else if (Pl.b l p == 58) = true then _ else if isSign (Pl.b l p) = true then 112 else 120) = _
              rw [if_neg hl, if_neg h58]
            rw [hc] at hn ⊢
            unfold tok
            dsimp only
            rw [if_neg hl, if_neg h58, if_neg hd, if_neg h34]
            split
            · rfl
            · rename_i hs
              rw [if_neg hs] at hn
              exact absurd rfl hn
/-- The token that the program looks at is the n-th one. -/
structure Cur (l : List UInt8) (T : List Tk) (n kd : Nat) (x : List UInt8) (a : Nat) : Prop where
  lt : n < T.length
  le : a ≤ l.length
  kinds : (kd = 0 ∧ kind T n = 101 ∧ x = []) ∨ (kd = 1 ∧ kind T n = cls x ∧ (cls x ≠ 120 → text T n = x)) ∨ (kd = 2 ∧ kind T n = 110 ∧ text T n = x) ∨ (kd = 3 ∧ kind T n = 116 ∧ text T n = x)
  rest : kind T n ≠ 101 → kind T n ≠ 120 → ∃ f, l.length - a < f ∧ T.drop (n + 1) = toks l f a
  small : x.length ≤ l.length
set_option maxRecDepth 20000 in
theorem head_of {T : List Tk} {m : Nat} {t : Tk} {r : List Tk} (h : T.drop m = t :: r) : m < T.length ∧ kind T m = t.kind ∧ text T m = t.text ∧ pos T m = t.pos ∧ T.drop (m + 1) = r := by
  have hl : m < T.length := by
    rcases Nat.lt_or_ge m T.length with h1 | h1
    · exact h1
    · rw [List.drop_eq_nil_of_le h1] at h; cases h
  rw [List.drop_eq_getElem_cons hl] at h
  simp only [List.cons.injEq] at h
  refine ⟨hl, ?_, ?_, ?_, h.2⟩
  · unfold kind; rw [List.getElem?_eq_getElem hl, ← h.1]; rfl
  · unfold text; rw [List.getElem?_eq_getElem hl, ← h.1]; rfl
  · unfold pos; rw [List.getElem?_eq_getElem hl, ← h.1]; rfl
set_option maxRecDepth 20000 in
theorem cur_end {l : List UInt8} {T : List Tk} {m f q : Nat} (hf : l.length - q < f) (hT : T.drop m = toks l f q) (hg : ¬ gap l q < l.length) (hg2 : gap l q ≤ l.length) : Cur l T m 0 [] (gap l q) ∧ pos T m = gap l q := by
  obtain ⟨f, rfl⟩ : ∃ f', f = f' + 1 := ⟨f - 1, by omega⟩
  rw [toks, if_neg hg] at hT
  obtain ⟨h1, h2, -, h4, -⟩ := head_of hT
  exact ⟨⟨h1, hg2, .inl ⟨rfl, h2, rfl⟩, fun h => absurd h2 h, Nat.zero_le _⟩, by rw [h4]; show l.length = _; omega⟩
set_option maxRecDepth 20000 in
theorem cur_none {l : List UInt8} {T : List Tk} {m f q : Nat} (hf : l.length - q < f) (hT : T.drop m = toks l f q) (hg : gap l q < l.length) (hp : ptk l (gap l q) = none) : m < T.length ∧ kind T m = 120 ∧ pos T m = gap l q := by
  obtain ⟨f, rfl⟩ : ∃ f', f = f' + 1 := ⟨f - 1, by omega⟩
  rw [toks, if_pos hg, if_pos (ptk_none l _ hp)] at hT
  obtain ⟨h1, h2, -, h4, -⟩ := head_of hT
  exact ⟨h1, h2, h4⟩
set_option maxRecDepth 20000 in
theorem cur_some {l : List UInt8} {T : List Tk} {m f q kd : Nat} {x : List UInt8} {a : Nat} (hq : q ≤ l.length) (hf : l.length - q < f) (hT : T.drop m = toks l f q) (hg : gap l q < l.length) (hp : ptk l (gap l q) = some (kd, x, a)) : Cur l T m kd x a ∧ pos T m = gap l q := by
  have hge := gap_ge l q
  obtain ⟨f, rfl⟩ : ∃ f', f = f' + 1 := ⟨f - 1, by omega⟩
  obtain ⟨p1, p2, p3⟩ := ptk_some l _ kd x a hg hp
  rw [toks, if_pos hg] at hT
  by_cases h120 : (tok l (gap l q)).1 = 120
  · rw [if_pos h120] at hT
    obtain ⟨h1, h2, -, h4, -⟩ := head_of hT
    have h2' : kind T m = 120 := h2
    refine ⟨⟨h1, p1, ?_, fun _ h => absurd h2' h, p2⟩, h4⟩
    rcases p3 with ⟨rfl, e1, -⟩ | ⟨-, e⟩ | ⟨-, e⟩
    · have hc : cls x = 120 := by rw [← e1]; exact h120
      exact .inr (.inl ⟨rfl, by rw [h2', hc], fun h => absurd hc h⟩)
    · rw [e] at h120; cases h120
    · rw [e] at h120; cases h120
  · rw [if_neg h120] at hT
    obtain ⟨h1, h2, h3, h4, h5⟩ := head_of hT
    have hnx := tok_next l _ hg h120
    rcases p3 with ⟨rfl, e1, e2⟩ | ⟨rfl, e⟩ | ⟨rfl, e⟩
    · have hc : cls x ≠ 120 := by rw [← e1]; exact h120
      have e := e2 hc
      rw [e] at h2 h3 h5 hnx
      exact ⟨⟨h1, p1, .inr (.inl ⟨rfl, h2, fun _ => h3⟩), fun _ _ => ⟨f, by dsimp only at hnx; omega, h5⟩, p2⟩, h4⟩
    · rw [e] at h2 h3 h5 hnx
      exact ⟨⟨h1, p1, .inr (.inr (.inl ⟨rfl, h2, h3⟩)), fun _ _ => ⟨f, by dsimp only at hnx; omega, h5⟩, p2⟩, h4⟩
    · rw [e] at h2 h3 h5 hnx
      exact ⟨⟨h1, p1, .inr (.inr (.inr ⟨rfl, h2, h3⟩)), fun _ _ => ⟨f, by dsimp only at hnx; omega, h5⟩, p2⟩, h4⟩
set_option maxRecDepth 20000 in
/-- A word that is asked for. -/
theorem Cur.takes {l : List UInt8} {T : List Tk} {n kd : Nat} {x : List UInt8} {a : Nat} (h : Cur l T n kd x a) (w : List UInt8) (hw : cls w ≠ 120) : (kd == 1 && x == w) = is T n (cls w) w := by
  rw [Bool.eq_iff_iff]
  unfold is
  simp only [Bool.and_eq_true, beq_iff_eq]
  have hcw : cls w = 119 ∨ cls w = 58 ∨ cls w = 112 := by
    cases w with
    | nil => exact absurd rfl hw
    | cons c r =>
      rw [cls] at hw ⊢
      split
      · exact .inl rfl
      · rename_i h1
        rw [if_neg h1] at hw
        split
        · rename_i h2
          rw [if_pos h2] at hw
          split
          · rename_i h3
            rw [if_pos h3] at hw
            exact absurd rfl hw
          · exact .inr (.inl rfl)
        · rename_i h2
          rw [if_neg h2] at hw
          split
          · exact .inr (.inr rfl)
          · rename_i h3
            rw [if_neg h3] at hw
            exact absurd rfl hw
  rcases h.kinds with ⟨rfl, k1, -⟩ | ⟨rfl, k1, k2⟩ | ⟨rfl, k1, k2⟩ | ⟨rfl, k1, k2⟩
  · rw [k1]
    refine ⟨fun h => absurd h.1 (by decide), fun h => ?_⟩
    exfalso
    have := h.1
    omega
  · rw [k1]
    refine ⟨fun h => ?_, fun h => ?_⟩
    · obtain ⟨-, rfl⟩ := h
      exact ⟨rfl, k2 hw⟩
    · refine ⟨rfl, ?_⟩
      rw [← h.2, k2 (by rw [h.1]; exact hw)]
  · rw [k1]
    refine ⟨fun h => absurd h.1 (by decide), fun h => ?_⟩
    exfalso
    have := h.1
    omega
  · rw [k1]
    refine ⟨fun h => absurd h.1 (by decide), fun h => ?_⟩
    exfalso
    have := h.1
    omega
end Rf
end Go.Proofs.YtlphojaeaogehaaGreatDoor
namespace Go.Proofs.YtlphojaeaogehaaGreatDoor
open Go.RowKit Go.Lib
set_option maxRecDepth 20000 in
/-- The two tests for a blank. -/
theorem blank_cases (c : UInt8) : ((c.toNat : Int) == 32) = true ∧ Pl.blank c = true ∨ ((c.toNat : Int) == 32) = false ∧ ((c.toNat : Int) == 9) = true ∧ Pl.blank c = true ∨ ((c.toNat : Int) == 32) = false ∧ ((c.toNat : Int) == 9) = false ∧ Pl.blank c = false := by
  cases h : ((c.toNat : Int) == 32)
  · cases h9 : ((c.toNat : Int) == 9)
    · exact .inr (.inr ⟨rfl, rfl, by simp [Pl.blank, Pl.byte_ne c 32 _ rfl h, Pl.byte_ne c 9 _ rfl h9]⟩)
    · exact .inr (.inl ⟨rfl, rfl, by rw [Pl.byte_eq c 9 _ rfl h9]; rfl⟩)
  · exact .inl ⟨rfl, by rw [Pl.byte_eq c 32 _ rfl h]; rfl⟩
set_option maxRecDepth 20000 in
theorem specBlank (c : UInt8) (w : World) : Calls Tryz.prog 21 #[.int .u8 (c.toNat : Int)] w fun e w' => e = .returned (.bool (Pl.blank c)) ∧ w = w' := by
  rcases blank_cases c with ⟨h, hb⟩ | ⟨h, h9, hb⟩ | ⟨h, h9, hb⟩ <;> rw [hb] <;> clear hb
  all_goals
    go_enter Tryz.func21, Tryz.ntmps21
    go_wp2
    go_ret
    exact ⟨rfl, rfl⟩
set_option maxRecDepth 20000 in
theorem implBlank (c : UInt8) (w : World) : Calls Tryz.prog 90 #[.int .u8 (c.toNat : Int)] w fun e w' => e = .returned (.bool (Pl.blank c)) ∧ w = w' := by
  rcases blank_cases c with ⟨h, hb⟩ | ⟨h, h9, hb⟩ | ⟨h, h9, hb⟩ <;> rw [hb] <;> clear hb
  all_goals
    go_enter Tryz.func90, Tryz.ntmps90
    go_wp2
    go_ret
    exact ⟨rfl, rfl⟩
end Go.Proofs.YtlphojaeaogehaaGreatDoor
namespace Go.Proofs.YtlphojaeaogehaaGreatDoor
open Go.RowKit Go.Lib
set_option maxRecDepth 20000 in
theorem implLineByte (c : UInt8) (w : World) : Calls Tryz.prog 91 #[.int .u8 (c.toNat : Int)] w fun e w' => e = .returned (.bool (Pl.lb c)) ∧ w = w' := by
  have h8 : c.toNat < 256 := UInt8.toNat_lt _
  cases h13 : ((c.toNat : Int) == 13)
  · have hn : ((c.toNat : Int) != 13) = true := by rw [bne, h13]; rfl
    cases h10 : ((c.toNat : Int) == 10)
    · have hm : ((c.toNat : Int) != 10) = true := by rw [bne, h10]; rfl
      rw [show Pl.lb c = true from by simp [Pl.lb, Pl.byte_ne c 13 _ rfl h13, Pl.byte_ne c 10 _ rfl h10]]
      go_enter Tryz.func91, Tryz.ntmps91
      go_wp2
      go_ret
      exact ⟨rfl, rfl⟩
    · have hm : ((c.toNat : Int) != 10) = false := by rw [bne, h10]; rfl
      rw [show Pl.lb c = false from by rw [Pl.byte_eq c 10 _ rfl h10]; rfl]
      go_enter Tryz.func91, Tryz.ntmps91
      go_wp2
      go_ret
      exact ⟨rfl, rfl⟩
  · have hn : ((c.toNat : Int) != 13) = false := by rw [bne, h13]; rfl
    rw [show Pl.lb c = false from by rw [Pl.byte_eq c 13 _ rfl h13]; rfl]
    go_enter Tryz.func91, Tryz.ntmps91
    go_wp2
    go_ret
    exact ⟨rfl, rfl⟩
set_option maxRecDepth 20000 in
theorem kindLine : Kind 91 Pl.lb := ⟨Go.Proofs.enters_of Tryz.func91 (by kernel_rfl) rfl, implLineByte⟩
set_option maxRecDepth 20000 in
theorem kindBlank : Kind 90 Pl.blank := ⟨Go.Proofs.enters_of Tryz.func90 (by kernel_rfl) rfl, implBlank⟩
end Go.Proofs.YtlphojaeaogehaaGreatDoor
namespace Go.Proofs.YtlphojaeaogehaaGreatDoor
open Go.RowKit Go.Lib
end Go.Proofs.YtlphojaeaogehaaGreatDoor
namespace Go.Proofs.YtlphojaeaogehaaGreatDoor
open Go.RowKit Go.Lib
set_option maxRecDepth 20000 in
theorem nb_cases (c : UInt8) : c.toNat < 33 ∧ Pl.nb c = false ∨ 33 ≤ c.toNat ∧ 126 < c.toNat ∧ Pl.nb c = false ∨ 33 ≤ c.toNat ∧ c.toNat ≤ 126 ∧ ((c.toNat : Int) == 58) = true ∧ Pl.nb c = false ∨ 33 ≤ c.toNat ∧ c.toNat ≤ 126 ∧ ((c.toNat : Int) == 58) = false ∧ Pl.nb c = true := by
  by_cases h1 : c.toNat < 33
  · exact .inl ⟨h1, by simp [Pl.nb]; omega⟩
  · by_cases h2 : 126 < c.toNat
    · exact .inr (.inl ⟨by omega, h2, by simp [Pl.nb]; omega⟩)
    · cases h3 : ((c.toNat : Int) == 58)
      · refine .inr (.inr (.inr ⟨by omega, by omega, rfl, ?_⟩))
        have := Pl.byte_ne c 58 _ rfl h3
        simp [Pl.nb, this]; omega
      · refine .inr (.inr (.inl ⟨by omega, by omega, rfl, ?_⟩))
        rw [Pl.byte_eq c 58 _ rfl h3]; rfl
end Go.Proofs.YtlphojaeaogehaaGreatDoor
