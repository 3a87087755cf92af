
/- Points and their bytes, there and back: plain. -/

/- Points as a header's words, read again: plain. -/

/- FnChars: what the law's walk asks of a world; its small tests. -/

/- Bytes as an argument of a law. -/
import Derived.Test.YtbppdfjigcelkaaGreatDoorDcSpec
import Derived.Test.YtbppdfjigcelkaaGreatDoorEncForm
import Derived.Test.YtbppdfjigcelkaaGreatDoorWordsWord
import Derived.Test.YtbppdfjigcelkaaGreatDoorWdCut
import Derived.Test.YtbppdfjigcelkaaGreatDoorWdSame
import Derived.Test.YtbppdfjigcelkaaGreatDoorWordsPlain
import Derived.Test.YtbppdfjigcelkaaGreatDoorWordsImpl
import Derived.Test.YtbppdfjigcelkaaGreatDoorDcGuess
import Derived.Test.YtbppdfjigcelkaaGreatDoorAnyPhase
import Derived.ProofKit
import Derived.OpenShut
import Derived.ShutString
import Derived.ChangeOld
import Derived.ChangeSlices
import Derived.Below
import Derived.Carry
namespace Go.Proofs.YtbppdfjigcelkaaGreatDoor
open Go.Lib
namespace Pd
set_option maxRecDepth 20000 in
theorem form_pt {set p : Int} (h : Pl.form set p ≠ []) : Pl.isPt p = true := by
  cases hp : Pl.isPt p with
  | true => rfl
  | false => exact absurd (by unfold Pl.form; rw [if_pos hp]) h
set_option maxRecDepth 20000 in
theorem take1 (l : List UInt8) : take 1 l = if (l.getD 0 0).toNat < 128 then some (((l.getD 0 0).toNat : Int), 1) else none := by
  unfold take
  rw [if_pos rfl]
set_option maxRecDepth 20000 in
theorem take2 (l : List UInt8) : take 2 l = some (((l.getD 0 0).toNat : Int), 1) := by
  unfold take
  rw [if_neg (by decide), if_pos rfl]
set_option maxRecDepth 20000 in
theorem take3 (l : List UInt8) : take 3 l = some (nineV (l.getD 0 0).toNat, 1) := by
  unfold take
  rw [if_neg (by decide), if_neg (by decide), if_pos rfl]
set_option maxRecDepth 20000 in
theorem take4 (l : List UInt8) : take 4 l = if Pu.takeN l = 0 then none else some (Pu.guessN (l.take (Pu.takeN l)), Pu.takeN l) := by
  unfold take
  rw [if_neg (by decide), if_neg (by decide), if_neg (by decide), if_pos rfl]
set_option maxRecDepth 20000 in
theorem take5 (l : List UInt8) : take 5 l = take16 l := by
  unfold take
  rw [if_neg (by decide), if_neg (by decide), if_neg (by decide), if_neg (by decide)]
set_option maxRecDepth 20000 in
theorem form1 (p : Int) (h : Pl.isPt p = true) : Pl.form 1 p = if p < 128 then [Pl.by8 p] else [] := by
  unfold Pl.form
  rw [if_neg (by rw [h]; simp), if_pos rfl]
set_option maxRecDepth 20000 in
theorem form2 (p : Int) (h : Pl.isPt p = true) : Pl.form 2 p = if p < 256 then [Pl.by8 p] else [] := by
  unfold Pl.form
  rw [if_neg (by rw [h]; simp), if_neg (by decide), if_pos rfl]
set_option maxRecDepth 20000 in
theorem guess_form (p : Int) (h : Pl.isPt p = true) : Pu.guessN (Pl.form 4 p) = p := by
  have hr := isPt_range h
  rw [← formN_form]
  unfold Pu.formN
  rw [if_neg (by rw [show Pu.isPt p = Pl.isPt p from rfl, h]; simp)]
  have hb : ∀ n : Int, 0 ≤ n → n < 256 → ((Pu.by8 n).toNat : Int) = n := fun n h0 h1 => Pl.by8_val n h0 h1
  by_cases h1 : p < 128
  · rw [if_pos h1]
    exact hb p (by omega) (by omega)
  rw [if_neg h1]
  by_cases h2 : p < 2048
  · rw [if_pos h2]
    show ((Pu.by8 (192 + p / 64)).toNat - 192 : Int) * 64 + (Pu.by8 (128 + p % 64)).toNat - 128 = p
    rw [hb _ (by omega) (by omega), hb _ (by omega) (by omega)]
    omega
  rw [if_neg h2]
  by_cases h3 : p < 65536
  · rw [if_pos h3]
    show ((Pu.by8 (224 + p / 4096)).toNat - 224 : Int) * 4096 + ((Pu.by8 (128 + p / 64 % 64)).toNat - 128 : Int) * 64 + (Pu.by8 (128 + p % 64)).toNat - 128 = p
    rw [hb _ (by omega) (by omega), hb _ (by omega) (by omega), hb _ (by omega) (by omega)]
    omega
  rw [if_neg h3]
  show ((Pu.by8 (240 + p / 262144)).toNat - 240 : Int) * 262144 + ((Pu.by8 (128 + p / 4096 % 64)).toNat - 128 : Int) * 4096 + ((Pu.by8 (128 + p / 64 % 64)).toNat - 128 : Int) * 64 + (Pu.by8 (128 + p % 64)).toNat - 128 = p
  rw [hb _ (by omega) (by omega), hb _ (by omega) (by omega), hb _ (by omega) (by omega), hb _ (by omega) (by omega)]
  omega
set_option maxRecDepth 20000 in
theorem fits_form (p : Int) (h : Pl.isPt p = true) : Pu.fits (Pl.form 4 p) = true := by
  unfold Pu.fits
  rw [guess_form p h, formN_form, decide_eq_true (isPt_range h).1]
  simp
set_option maxRecDepth 20000 in
theorem take_fits (l r : List UInt8) (h : Pu.fits l = true) (h1 : 1 ≤ l.length) (h4 : l.length ≤ 4) : Pu.takeN (l ++ r) = l.length := by
  have f1 : ∀ a : UInt8, 128 ≤ a.toNat → Pu.fits [a] = false := fun a ha => by
    cases e : Pu.fits [a] with
    | false => rfl
    | true => have := (Pu.fits1 a).1 e; omega
  unfold Pu.takeN
  match l, h1, h4 with
  | [a], _, _ =>
    rw [if_pos ⟨by simp, h⟩]
    rfl
  | [a, b], _, _ =>
    have hf := (Pu.fits2 a b).1 h
    have e1 : Pu.fits (([a, b] ++ r).take 1) = false := f1 a (by omega)
    rw [if_neg (by rw [e1]; simp), if_pos ⟨by simp, h⟩]
    rfl
  | [a, b, c], _, _ =>
    have hf := (Pu.fits3 a b c).1 h
    have e1 : Pu.fits (([a, b, c] ++ r).take 1) = false := f1 a (by omega)
    have e2 : Pu.fits (([a, b, c] ++ r).take 2) = false := by
      show Pu.fits [a, b] = false
      cases e : Pu.fits [a, b] with
      | false => rfl
      | true => have := (Pu.fits2 a b).1 e; omega
    rw [if_neg (by rw [e1]; simp), if_neg (by rw [e2]; simp), if_pos ⟨by simp, h⟩]
    rfl
  | [a, b, c, d], _, _ =>
    have hf := (Pu.fits4 a b c d).1 h
    have e1 : Pu.fits (([a, b, c, d] ++ r).take 1) = false := f1 a (by omega)
    have e2 : Pu.fits (([a, b, c, d] ++ r).take 2) = false := by
      show Pu.fits [a, b] = false
      cases e : Pu.fits [a, b] with
      | false => rfl
      | true => have := (Pu.fits2 a b).1 e; omega
    have e3 : Pu.fits (([a, b, c, d] ++ r).take 3) = false := by
      show Pu.fits [a, b, c] = false
      cases e : Pu.fits [a, b, c] with
      | false => rfl
      | true => have := (Pu.fits3 a b c).1 e; omega
    rw [if_neg (by rw [e1]; simp), if_neg (by rw [e2]; simp), if_neg (by rw [e3]; simp), if_pos ⟨by simp, h⟩]
    rfl
set_option maxRecDepth 20000 in
/-- A point is taken off its bytes. -/
theorem take_form (set p : Int) (hs : 1 ≤ set ∧ set ≤ 5) (h : Pl.form set p ≠ []) (r : List UInt8) : take set (Pl.form set p ++ r) = some (p, (Pl.form set p).length) := by
  have hp := form_pt h
  have hr := isPt_range hp
  have hset : set = 1 ∨ set = 2 ∨ set = 3 ∨ set = 4 ∨ set = 5 := by omega
  rcases hset with rfl | rfl | rfl | rfl | rfl
  · rw [form1 p hp] at h ⊢
    by_cases hc : p < 128
    · rw [if_pos hc, take1]
      show (if (Pl.by8 p).toNat < 128 then some (((Pl.by8 p).toNat : Int), 1) else none) = _
      have := Pl.by8_val p (by omega) (by omega)
      rw [if_pos (by omega), this]
      rfl
    · rw [if_neg hc] at h
      exact absurd rfl h
  · rw [form2 p hp] at h ⊢
    by_cases hc : p < 256
    · rw [if_pos hc, take2]
      show some (((Pl.by8 p).toNat : Int), 1) = _
      rw [Pl.by8_val p (by omega) (by omega)]
      rfl
    · rw [if_neg hc] at h
      exact absurd rfl h
  · rw [Pl.form3 p hp] at h ⊢
    cases e : Pl.unNine p with
    | some b =>
      have hb := Pl.un_byte e
      rw [take3]
      show some (nineV (Pl.by8 b).toNat, 1) = _
      unfold nineV
      rw [Pl.by8_val b hb.1 hb.2, Pl.un_nine e]
      rfl
    | none =>
      rw [e] at h
      dsimp only at h ⊢
      by_cases hc : 255 < p
      · rw [if_pos hc] at h
        exact absurd rfl h
      · rw [if_neg hc] at h ⊢
        cases e2 : Pl.nineOf p with
        | some q => rw [e2] at h; exact absurd rfl h
        | none =>
          rw [if_neg (by simp), take3]
          show some (nineV (Pl.by8 p).toNat, 1) = _
          unfold nineV
          rw [Pl.by8_val p (by omega) (by omega), e2]
          rfl
  · have hl := Pl.form_len 4 p
    have h1 : 1 ≤ (Pl.form 4 p).length := List.length_pos_iff.2 h
    rw [take4, take_fits _ r (fits_form p hp) h1 hl, if_neg (by omega), List.take_left, guess_form p hp]
  · rw [take5, form5 p hp]
    by_cases hc : p < 65536
    · rw [if_pos hc]
      have e : two (Pl.by8 (p / 256)) (Pl.by8 (p % 256)) = p := by
        unfold two
        rw [Pl.by8_val _ (by omega) (by omega), Pl.by8_val _ (by omega) (by omega)]
        omega
      show (if Pl.isPt (two (Pl.by8 (p / 256)) (Pl.by8 (p % 256))) = true then some (two (Pl.by8 (p / 256)) (Pl.by8 (p % 256)), 2) else _) = _
      rw [e, if_pos hp]
      rfl
    · rw [if_neg hc]
      have e : two (Pl.by8 ((55296 + (p - 65536) / 1024) / 256)) (Pl.by8 ((55296 + (p - 65536) / 1024) % 256)) = 55296 + (p - 65536) / 1024 := by
        unfold two
        rw [Pl.by8_val _ (by omega) (by omega), Pl.by8_val _ (by omega) (by omega)]
        omega
      have e2 : two (Pl.by8 ((56320 + (p - 65536) % 1024) / 256)) (Pl.by8 ((56320 + (p - 65536) % 1024) % 256)) = 56320 + (p - 65536) % 1024 := by
        unfold two
        rw [Pl.by8_val _ (by omega) (by omega), Pl.by8_val _ (by omega) (by omega)]
        omega
      have en : Pl.isPt (55296 + (p - 65536) / 1024) = false := by
        cases hx : Pl.isPt (55296 + (p - 65536) / 1024) with
        | false => rfl
        | true =>
          unfold Pl.isPt at hx
          simp at hx
          omega
      show (if Pl.isPt (two (Pl.by8 ((55296 + (p - 65536) / 1024) / 256)) (Pl.by8 ((55296 + (p - 65536) / 1024) % 256))) = true then some (two (Pl.by8 ((55296 + (p - 65536) / 1024) / 256)) (Pl.by8 ((55296 + (p - 65536) / 1024) % 256)), 2) else
        if two (Pl.by8 ((55296 + (p - 65536) / 1024) / 256)) (Pl.by8 ((55296 + (p - 65536) / 1024) % 256)) < 56320 ∧ 56320 ≤ two (Pl.by8 ((56320 + (p - 65536) % 1024) / 256)) (Pl.by8 ((56320 + (p - 65536) % 1024) % 256)) ∧ two (Pl.by8 ((56320 + (p - 65536) % 1024) / 256)) (Pl.by8 ((56320 + (p - 65536) % 1024) % 256)) ≤ 57343 then
          some (65536 + (two (Pl.by8 ((55296 + (p - 65536) / 1024) / 256)) (Pl.by8 ((55296 + (p - 65536) / 1024) % 256)) - 55296) * 1024 + (two (Pl.by8 ((56320 + (p - 65536) % 1024) / 256)) (Pl.by8 ((56320 + (p - 65536) % 1024) % 256)) - 56320), 4) else none) = _
      rw [e, e2, en, if_neg (by simp), if_pos (by omega)]
      show some (_, 4) = some (_, 4)
      congr 2
      omega
set_option maxRecDepth 20000 in
/-- What is taken has the bytes that it was taken from. -/
theorem form_take (set : Int) (hs : 1 ≤ set ∧ set ≤ 5) (l : List UInt8) (hl : l ≠ []) (p : Int) (n : Nat) (h : take set l = some (p, n)) : Pl.form set p = l.take n := by
  have hset : set = 1 ∨ set = 2 ∨ set = 3 ∨ set = 4 ∨ set = 5 := by omega
  have hby : ∀ a : UInt8, Pl.by8 ((a.toNat : Nat) : Int) = a := fun a => (Pl.by8_eq _ _ (by omega) (by have := UInt8.toNat_lt a; omega)).2 rfl
  obtain ⟨a, t, rfl⟩ : ∃ a t, l = a :: t := by
    cases l with
    | nil => exact absurd rfl hl
    | cons a t => exact ⟨a, t, rfl⟩
  have ha := UInt8.toNat_lt a
  rcases hset with rfl | rfl | rfl | rfl | rfl
  · rw [take1] at h
    simp only [List.getD_cons_zero] at h
    split at h
    · rename_i hc
      cases h
      rw [form1 _ (by unfold Pl.isPt; simp; omega), if_pos (by omega), hby]
      rfl
    · cases h
  · rw [take2] at h
    simp only [List.getD_cons_zero] at h
    cases h
    rw [form2 _ (by unfold Pl.isPt; simp; omega), if_pos (by omega), hby]
    rfl
  · rw [take3] at h
    simp only [List.getD_cons_zero] at h
    cases h
    have hp : Pl.isPt (nineV a.toNat) = true := by
      unfold nineV
      cases e : Pl.nineOf (a.toNat : Int) with
      | none =>
        show Pl.isPt (a.toNat : Int) = true
        unfold Pl.isPt
        simp
        omega
      | some q =>
        show Pl.isPt q = true
        unfold Pl.nineOf at e
        repeat' split at e
        all_goals first | (cases e; rfl) | cases e
    have hh := Pl.nv_hit ha hp rfl
    rw [hby] at hh
    exact hh
  · rw [take4] at h
    split at h
    · cases h
    · rename_i h0
      simp only [Option.some.injEq, Prod.mk.injEq] at h
      obtain ⟨rfl, rfl⟩ := h
      have hf : Pu.fits ((a :: t).take (Pu.takeN (a :: t))) = true := by
        generalize a :: t = l at h0 ⊢
        unfold Pu.takeN at h0 ⊢
        split
        · rename_i hc; exact hc.2
        split
        · rename_i hc; exact hc.2
        split
        · rename_i hc; exact hc.2
        split
        · rename_i hc; exact hc.2
        · rename_i h1 h2 h3 h4
          rw [if_neg h1, if_neg h2, if_neg h3, if_neg h4] at h0
          exact absurd rfl h0
      unfold Pu.fits at hf
      simp only [Bool.and_eq_true, decide_eq_true_eq] at hf
      rw [← formN_form]
      exact hf.2
  · rw [take5] at h
    unfold take16 at h
    split at h
    · rename_i x y r he
      cases he
      have hx := UInt8.toNat_lt a
      have hy := UInt8.toNat_lt y
      split at h
      · rename_i hp
        cases h
        rw [form5 _ hp, if_pos (by unfold two; omega)]
        have e1 : Pl.by8 (two a y / 256) = a := (Pl.by8_eq _ _ (by unfold two; omega) (by unfold two; omega)).2 (by unfold two; omega)
        have e2 : Pl.by8 (two a y % 256) = y := (Pl.by8_eq _ _ (by omega) (by omega)).2 (by unfold two; omega)
        rw [e1, e2]
        rfl
      · rename_i hp
        split at h
        · rename_i c d r2
          split at h
          · rename_i hc
            have hcc := UInt8.toNat_lt c
            have hdd := UInt8.toNat_lt d
            have hq : Pl.isPt (two a y) = false := by simpa using hp
            have h4 := ft5_four a y c d hq
            rw [decide_eq_true hc] at h4
            unfold ft at h4
            rw [← gs5] at h4
            simp only [Bool.and_eq_true, decide_eq_true_eq] at h4
            cases h
            have e : guess16 [a, y, c, d] = 65536 + (two a y - 55296) * 1024 + (two c d - 56320) := by
              show (two a y - 55296) * 1024 + two c d - 56320 + 65536 = _
              omega
            rw [e] at h4
            exact h4.2
          · cases h
        · cases h
    · cases h
set_option maxRecDepth 20000 in
/-- All points come back from their bytes. -/
theorem dec_flat (set : Int) (hs : 1 ≤ set ∧ set ≤ 5) : ∀ (ps out : List Int), (∀ p ∈ ps, Pl.form set p ≠ []) → dec set out (ps.flatMap (Pl.form set)) = some (out ++ ps)
  | [], out, _ => by rw [List.flatMap_nil, dec_nil, List.append_nil]
  | p :: ps, out, h => by
    have hp := h p List.mem_cons_self
    rw [List.flatMap_cons]
    have hk := take_form set p hs hp (ps.flatMap (Pl.form set))
    have hn : 1 ≤ (Pl.form set p).length := List.length_pos_iff.2 hp
    have := dec_step (set := set) (p := out) (x := dec set out (Pl.form set p ++ ps.flatMap (Pl.form set))) (l := Pl.form set p ++ ps.flatMap (Pl.form set)) (k := 0) (by rw [List.length_append]; omega) hk rfl
    rw [Nat.zero_add, List.drop_left] at this
    rw [← this, dec_flat set hs ps _ (fun q hq => h q (List.mem_cons_of_mem _ hq))]
    simp
set_option maxRecDepth 20000 in
theorem enc_flat (f : Int → List UInt8) : ∀ (ps : List Int) (out : List UInt8) (l : List UInt8), Pl.enc f out ps = some l → l = out ++ ps.flatMap f ∧ ∀ p ∈ ps, f p ≠ []
  | [], out, l, h => by
    rw [Pl.enc] at h
    cases h
    simp
  | p :: ps, out, l, h => by
    rw [Pl.enc] at h
    split at h
    · cases h
    · rename_i hne
      obtain ⟨h1, h2⟩ := enc_flat f ps _ l h
      refine ⟨by rw [h1]; simp, ?_⟩
      intro q hq
      rcases List.mem_cons.1 hq with rfl | hq
      · intro e; rw [e] at hne; exact hne rfl
      · exact h2 q hq
set_option maxRecDepth 20000 in
theorem enc_some (f : Int → List UInt8) : ∀ (ps : List Int) (out : List UInt8), (∀ p ∈ ps, f p ≠ []) → Pl.enc f out ps = some (out ++ ps.flatMap f)
  | [], out, _ => by rw [Pl.enc]; simp
  | p :: ps, out, h => by
    rw [Pl.enc, if_neg (by simpa using h p List.mem_cons_self), enc_some f ps _ (fun q hq => h q (List.mem_cons_of_mem _ hq))]
    simp
set_option maxRecDepth 20000 in
theorem dec_enc (set : Int) (hs : 1 ≤ set ∧ set ≤ 5) (ps : List Int) (l : List UInt8) (h : Pl.enc (Pl.form set) [] ps = some l) : dec set [] l = some ps := by
  obtain ⟨h1, h2⟩ := enc_flat _ ps [] l h
  rw [h1, List.nil_append, dec_flat set hs ps [] h2, List.nil_append]
set_option maxRecDepth 20000 in
theorem dec_back (set : Int) (hs : 1 ≤ set ∧ set ≤ 5) : ∀ (n : Nat) (l : List UInt8) (out ps : List Int), l.length ≤ n → dec set out l = some ps → ∃ qs, ps = out ++ qs ∧ qs.flatMap (Pl.form set) = l ∧ ∀ q ∈ qs, Pl.form set q ≠ []
  | n, [], out, ps, _, h => by
    rw [dec_nil] at h
    cases h
    exact ⟨[], by simp, rfl, by simp⟩
  | 0, a :: r, out, ps, hn, _ => by simp at hn
  | n + 1, a :: r, out, ps, hn, h => by
    rw [dec] at h
    split at h
    · cases h
    · rename_i p k hk
      obtain ⟨hk1, hk2⟩ := take_room (List.cons_ne_nil _ _) hk
      have hf := form_take set hs (a :: r) (List.cons_ne_nil _ _) p k hk
      obtain ⟨qs, h1, h2, h3⟩ := dec_back set hs n (r.drop (k - 1)) (out ++ [p]) ps (by simp at hn ⊢; omega) h
      have hd : r.drop (k - 1) = (a :: r).drop k := by
        obtain ⟨j, rfl⟩ : ∃ j, k = j + 1 := ⟨k - 1, by omega⟩
        simp
      refine ⟨p :: qs, by rw [h1]; simp, ?_, ?_⟩
      · rw [List.flatMap_cons, h2, hf, hd]
        exact List.take_append_drop _ _
      · intro q hq
        rcases List.mem_cons.1 hq with rfl | hq
        · rw [hf]
          intro e
          have := congrArg List.length e
          rw [List.length_take, List.length_nil] at this
          omega
        · exact h3 q hq
set_option maxRecDepth 20000 in
theorem enc_dec (set : Int) (hs : 1 ≤ set ∧ set ≤ 5) (l : List UInt8) (ps : List Int) (h : dec set [] l = some ps) : Pl.enc (Pl.form set) [] ps = some l := by
  obtain ⟨qs, h1, h2, h3⟩ := dec_back set hs l.length l [] ps (Nat.le_refl _) h
  rw [List.nil_append] at h1
  subst h1
  rw [enc_some _ _ _ h3, h2, List.nil_append]
end Pd
end Go.Proofs.YtbppdfjigcelkaaGreatDoor
namespace Go.Proofs.YtbppdfjigcelkaaGreatDoor
open Go.Lib
namespace Pc
/-- A sign of a word's data. -/
def dg (c : UInt8) : Bool := !Pu.isSpace c && (!(c == 63) && (Pl.prt c && (!Pw.bl c && !(c == 32))))
set_option maxRecDepth 20000 in
theorem dg_digit (n : Nat) (h : n < 64) : dg (Pb.d64 n) = true := by
  have : ∀ n, n < 64 → dg (Pb.d64 n) = true := by decide +kernel
  exact this n h
set_option maxRecDepth 20000 in
theorem dg_pad : dg 61 = true := by decide
set_option maxRecDepth 20000 in
theorem val_digit (n : Nat) (h : n < 64) : Pu.val (Pb.d64 n) = n := (Pu.d64_val (Pb.d64 n) n h).1 rfl
set_option maxRecDepth 20000 in
theorem val_pad : Pu.val 61 = 64 := by decide
set_option maxRecDepth 20000 in
theorem digit_pad (n : Nat) (h : n < 64) : Pb.d64 n ≠ 61 := fun e => by
  have := val_digit n h
  rw [e, val_pad] at this
  omega
set_option maxRecDepth 20000 in
theorem bare_dg : ∀ (q : List UInt8), ∀ c ∈ Pb.bare q, dg c = true
  | [], c, h => by simp [Pb.bare] at h
  | [a], c, h => by
    have ha := UInt8.toNat_lt a
    rw [Pb.bare] at h
    simp only [List.mem_cons, List.not_mem_nil, or_false] at h
    rcases h with rfl | rfl | rfl | rfl
    · exact dg_digit _ (by omega)
    · exact dg_digit _ (by omega)
    · exact dg_pad
    · exact dg_pad
  | [a, b], c, h => by
    have ha := UInt8.toNat_lt a
    have hb := UInt8.toNat_lt b
    rw [Pb.bare] at h
    simp only [List.mem_cons, List.not_mem_nil, or_false] at h
    rcases h with rfl | rfl | rfl | rfl
    · exact dg_digit _ (by omega)
    · exact dg_digit _ (by omega)
    · exact dg_digit _ (by omega)
    · exact dg_pad
  | a :: b :: e :: r, c, h => by
    have ha := UInt8.toNat_lt a
    have hb := UInt8.toNat_lt b
    have he := UInt8.toNat_lt e
    rw [Pb.bare, List.mem_append] at h
    rcases h with h | h
    · unfold Pb.group at h
      simp only [List.mem_cons, List.not_mem_nil, or_false] at h
      rcases h with rfl | rfl | rfl | rfl
      · exact dg_digit _ (by omega)
      · exact dg_digit _ (by omega)
      · exact dg_digit _ (by omega)
      · exact dg_digit _ (by omega)
    · exact bare_dg r c h
set_option maxRecDepth 20000 in
theorem bare_four : ∀ q : List UInt8, (Pb.bare q).length % 4 = 0
  | [] => by simp [Pb.bare]
  | [a] => by simp [Pb.bare]
  | [a, b] => by simp [Pb.bare]
  | a :: b :: e :: r => by
    have := bare_four r
    rw [Pb.bare, List.length_append]
    unfold Pb.group
    simp only [List.length_cons, List.length_nil]
    omega
set_option maxRecDepth 20000 in
theorem of_nat (a : UInt8) (n : Nat) (h : n = a.toNat) : UInt8.ofNat n = a := by
  rw [h]
  exact UInt8.ofNat_toNat
set_option maxRecDepth 20000 in
theorem quads_bare : ∀ q : List UInt8, Pu.quads (Pb.bare q) = some q
  | [] => by rw [Pb.bare, Pu.quads]
  | [a] => by
    have ha := UInt8.toNat_lt a
    rw [Pb.bare, Pu.quads]
    unfold Pu.quad
    rw [if_neg (by rw [val_pad]; omega), if_pos ⟨rfl, by rw [val_digit _ (by omega)]; omega, by rw [val_digit _ (by omega)]; omega, by rw [val_digit _ (by omega)]; omega, rfl, rfl⟩]
    rw [val_digit _ (by omega), val_digit _ (by omega), of_nat a _ (by omega), Pu.quads]
    rfl
  | [a, b] => by
    have ha := UInt8.toNat_lt a
    have hb := UInt8.toNat_lt b
    rw [Pb.bare, Pu.quads]
    unfold Pu.quad
    rw [if_neg (by rw [val_pad]; omega), if_neg (fun h => digit_pad _ (by omega) h.2.2.2.2.1),
      if_pos ⟨rfl, by rw [val_digit _ (by omega)]; omega, by rw [val_digit _ (by omega)]; omega, by rw [val_digit _ (by omega)]; omega, by rw [val_digit _ (by omega)]; omega, rfl⟩]
    rw [val_digit _ (by omega), val_digit _ (by omega), val_digit _ (by omega), of_nat a _ (by omega), of_nat b _ (by omega), Pu.quads]
    rfl
  | a :: b :: e :: r => by
    have ha := UInt8.toNat_lt a
    have hb := UInt8.toNat_lt b
    have he := UInt8.toNat_lt e
    have ih := quads_bare r
    rw [Pb.bare]
    show Pu.quads (Pb.d64 (a.toNat / 4) :: Pb.d64 (a.toNat % 4 * 16 + b.toNat / 16) :: Pb.d64 (b.toNat % 16 * 4 + e.toNat / 64) :: Pb.d64 (e.toNat % 64) :: Pb.bare r) = _
    rw [Pu.quads, ih]
    unfold Pu.quad
    rw [if_pos ⟨by rw [val_digit _ (by omega)]; omega, by rw [val_digit _ (by omega)]; omega, by rw [val_digit _ (by omega)]; omega, by rw [val_digit _ (by omega)]; omega⟩]
    rw [val_digit _ (by omega), val_digit _ (by omega), val_digit _ (by omega), val_digit _ (by omega), of_nat a _ (by omega), of_nat b _ (by omega), of_nat e _ (by omega)]
    rfl
set_option maxRecDepth 20000 in
theorem un_bare (q : List UInt8) : Pu.un64 (Pb.bare q) = some q := by
  have hs : Pu.strip (Pb.bare q) = Pb.bare q := by
    unfold Pu.strip
    rw [List.filter_eq_self]
    intro c hc
    have := bare_dg q c hc
    unfold dg at this
    simp only [Bool.and_eq_true] at this
    exact this.1
  unfold Pu.un64
  rw [hs, if_pos (bare_four q), quads_bare]
set_option maxRecDepth 20000 in
theorem cut_none (d : UInt8) : ∀ (l acc : List UInt8), d ∉ l → Cu.cut d acc l = [acc ++ l]
  | [], acc, _ => by simp [Cu.cut]
  | c :: r, acc, h => by
    have hc : ¬ c = d := fun e => h (by rw [e]; exact List.mem_cons_self)
    rw [Cu.cut, if_neg hc, cut_none d r _ (fun e => h (List.mem_cons_of_mem _ e))]
    simp
set_option maxRecDepth 20000 in
theorem bare_no63 (q : List UInt8) : (63 : UInt8) ∉ Pb.bare q := fun h => by
  have := bare_dg q 63 h
  revert this
  decide
set_option maxRecDepth 20000 in
/-- A written word is read as its points. -/
theorem word_back (Q : List Int) (hQ : ∀ p ∈ Q, Pl.isPt p = true) (hl : (Pl.cat Q).length ≤ 45) : Pw.word (Pl.word (Pl.cat Q)) = some Q := by
  have hbl := Pb.bare_len 15 (Pl.cat Q) (by omega)
  have hun := un_bare (Pl.cat Q)
  have hno := bare_no63 (Pl.cat Q)
  have hd : Pd.dec 4 [] (Pl.cat Q) = some Q := by
    have := Pd.dec_flat 4 (by omega) Q [] (fun p hp => Pl.form4_ne p (hQ p hp))
    rw [List.nil_append] at this
    exact this
  have e0 : Pl.word (Pl.cat Q) = 61 :: 63 :: (([117, 116, 102, 45, 56, 63, 66, 63] ++ Pb.bare (Pl.cat Q)) ++ [63, 61]) := by simp [Pl.word]
  generalize Pb.bare (Pl.cat Q) = B at hbl hun hno e0
  unfold Pw.word
  rw [e0]
  have hp : hasPrefix (61 :: 63 :: (([117, 116, 102, 45, 56, 63, 66, 63] ++ B) ++ [63, 61])) [61, 63] = true := by simp [hasPrefix, List.isPrefixOf]
  have ht : trimPrefix (61 :: 63 :: (([117, 116, 102, 45, 56, 63, 66, 63] ++ B) ++ [63, 61])) [61, 63] = ([117, 116, 102, 45, 56, 63, 66, 63] ++ B) ++ [63, 61] := by
    unfold trimPrefix
    rw [if_pos hp]
    rfl
  have hsf : hasSuffix (([117, 116, 102, 45, 56, 63, 66, 63] ++ B) ++ [63, 61]) [63, 61] = true := by
    unfold hasSuffix
    rw [List.isSuffixOf_iff_suffix]
    exact ⟨_, rfl⟩
  have hts : trimSuffix (([117, 116, 102, 45, 56, 63, 66, 63] ++ B) ++ [63, 61]) [63, 61] = [117, 116, 102, 45, 56, 63, 66, 63] ++ B := by
    unfold trimSuffix
    rw [if_pos hsf]
    simp
  rw [ht, hts, if_pos ⟨hp, hsf, by simp; omega⟩]
  have ec : Cu.cut 63 [] ([117, 116, 102, 45, 56, 63, 66, 63] ++ B) = [[117, 116, 102, 45, 56], [66], B] := by
    have e1 : ([117, 116, 102, 45, 56, 63, 66, 63] : List UInt8) ++ B = [117, 116, 102, 45, 56] ++ 63 :: ([66] ++ 63 :: B) := rfl
    rw [e1, Pw.cut_join, Pw.cut_join, cut_none 63 B [] hno, cut_none 63 _ [] (by decide), cut_none 63 _ [] (by decide)]
    rfl
  rw [ec]
  show Pw.three [117, 116, 102, 45, 56] [66] B = some Q
  unfold Pw.three Pw.data
  rw [if_pos (.inl rfl), hun, Option.bind_some]
  have es : setFrom 0 (lower [117, 116, 102, 45, 56]) = 4 := by decide
  rw [es]
  unfold decA
  rw [if_neg (by omega), hd]
set_option maxRecDepth 20000 in
theorem word_sign (q : List UInt8) : ∀ c ∈ Pl.word q, Pw.bl c = false ∧ c ≠ 32 ∧ Pl.prt c = true := by
  intro c h
  unfold Pl.word at h
  simp only [List.mem_append] at h
  rcases h with (h | h) | h
  · have : ∀ c ∈ ([61, 63, 117, 116, 102, 45, 56, 63, 66, 63] : List UInt8), Pw.bl c = false ∧ c ≠ 32 ∧ Pl.prt c = true := by decide
    exact this c h
  · have := bare_dg q c h
    unfold dg at this
    simp only [Bool.and_eq_true, Bool.not_eq_true', beq_eq_false_iff_ne] at this
    exact ⟨this.2.2.2.1, this.2.2.2.2, this.2.2.1⟩
  · have : ∀ c ∈ ([63, 61] : List UInt8), Pw.bl c = false ∧ c ≠ 32 ∧ Pl.prt c = true := by decide
    exact this c h
set_option maxRecDepth 20000 in
theorem split_word (g p r : List UInt8) (hg : g = [] ∨ g = [32]) (hp : p ≠ []) (hb : ∀ c ∈ p, Pw.bl c = false) (hr : r = [] ∨ ∃ t, r = 32 :: t) :
    (g ++ (p ++ r)).take (Pw.gap (g ++ (p ++ r))) = g ∧ Pw.wd (g ++ (p ++ r)) = p ∧ Pw.rs (g ++ (p ++ r)) = r := by
  have h1 : 1 ≤ p.length := List.length_pos_iff.2 hp
  have hgap : Pw.gap (g ++ (p ++ r)) = g.length := by
    refine Pw.gap_at _ _ (fun j hj hk => ?_) (.inr ⟨by simp; omega, ?_⟩)
    · rw [List.getElem_append_left hk]
      rcases hg with rfl | rfl
      · simp at hk
      · simp at hk
        subst hk
        show Pw.bl 32 = true
        decide
    · rw [List.getElem_append_right (Nat.le_refl _)]
      simp only [Nat.sub_self]
      rw [List.getElem_append_left (by omega)]
      exact hb _ (List.getElem_mem _)
  have hd : (g ++ (p ++ r)).drop g.length = p ++ r := List.drop_left
  have htx : Pw.tx (p ++ r) = p.length := by
    refine Pw.tx_at _ _ (fun j hj hk => ?_) ?_
    · rw [List.getElem_append_left hk]
      exact hb _ (List.getElem_mem _)
    · rcases hr with rfl | ⟨t, rfl⟩
      · left; simp
      · right
        refine ⟨by simp, ?_⟩
        rw [List.getElem_append_right (Nat.le_refl _)]
        simp only [Nat.sub_self]
        show Pw.bl 32 = true
        decide
  refine ⟨by rw [hgap]; exact List.take_left, ?_, ?_⟩
  · unfold Pw.wd
    rw [hgap, hd, htx]
    exact List.take_left
  · unfold Pw.rs
    rw [hgap, hd, htx]
    exact List.drop_left
set_option maxRecDepth 20000 in
theorem rd_one (b : Bool) (g r : List UInt8) (Q : List Int) (hg : g = [] ∨ (g = [32] ∧ b = true)) (hQ : ∀ p ∈ Q, Pl.isPt p = true) (hl : (Pl.cat Q).length ≤ 45) (hr : r = [] ∨ ∃ t, r = 32 :: t) :
    Pw.rd b (g ++ (Pl.word (Pl.cat Q) ++ r)) = Q ++ Pw.rd true r := by
  obtain ⟨h1, h2, h3⟩ := split_word g (Pl.word (Pl.cat Q)) r (by rcases hg with h | h; exact .inl h; exact .inr h.1) (Pl.word_ne _) (fun c hc => (word_sign _ c hc).1) hr
  rw [Pw.rd_word b _ Q (by simp [Pl.word_ne]) (by rw [h2]; exact word_back Q hQ hl), h1, h3]
  have : (if b = true then [] else Pw.pts g) = [] := by
    rcases hg with rfl | ⟨-, rfl⟩
    · cases b <;> rfl
    · rfl
  rw [this, List.nil_append]
set_option maxRecDepth 20000 in
theorem rd_ww : ∀ (xs Q : List Int) (b : Bool) (g : List UInt8), (g = [] ∨ (g = [32] ∧ b = true)) → (∀ p ∈ Q, Pl.isPt p = true) → (∀ p ∈ xs, Pl.isPt p = true) → (Pl.cat Q).length ≤ 45 → Pw.rd b (g ++ Pl.ww (Pl.cat Q) xs) = Q ++ xs
  | [], Q, b, g, hg, hQ, _, hl => by
    rw [Pl.ww]
    have := rd_one b g [] Q hg hQ hl (.inl rfl)
    rw [List.append_nil] at this
    rw [this, Pw.rd_nil]
  | x :: xs, Q, b, g, hg, hQ, hx, hl => by
    have hx0 := hx x List.mem_cons_self
    have hxs : ∀ p ∈ xs, Pl.isPt p = true := fun p hp => hx p (List.mem_cons_of_mem _ hp)
    have e1 : Pl.form 4 x = Pl.cat [x] := by simp [Pl.cat]
    rw [Pl.ww]
    split
    · have hf := Pl.form_len 4 x
      rw [rd_one b g (32 :: Pl.ww (Pl.form 4 x) xs) Q hg hQ hl (.inr ⟨_, rfl⟩)]
      have ih := rd_ww xs [x] true [32] (.inr ⟨rfl, rfl⟩) (by intro p hp; simp at hp; rw [hp]; exact hx0) hxs (by rw [← e1]; omega)
      rw [e1]
      have e2 : (32 : UInt8) :: Pl.ww (Pl.cat [x]) xs = [32] ++ Pl.ww (Pl.cat [x]) xs := rfl
      rw [e2, ih]
      rfl
    · rename_i hc
      have e2 : Pl.cat Q ++ Pl.form 4 x = Pl.cat (Q ++ [x]) := by rw [Pl.cat_append, e1]
      have hl2 : (Pl.cat (Q ++ [x])).length ≤ 45 := by rw [← e2, List.length_append]; omega
      have ih := rd_ww xs (Q ++ [x]) b g hg (by intro p hp; rcases List.mem_append.1 hp with h | h; exact hQ p h; simp at h; rw [h]; exact hx0) hxs hl2
      rw [e2, ih]
      simp
set_option maxRecDepth 20000 in
theorem has_tail (sub : List UInt8) (h0 : sub ≠ []) : ∀ (x y : List UInt8), contains (x ++ y) sub = false → contains y sub = false
  | [], y, h => h
  | a :: x, y, h => by
    rw [List.cons_append, contains_cons, Bool.or_eq_false_iff] at h
    exact has_tail sub h0 x y h.2
set_option maxRecDepth 20000 in
theorem has_head (sub t : List UInt8) (h0 : sub ≠ []) : contains (sub ++ t) sub = true := by
  match sub, h0 with
  | a :: s, _ =>
    rw [List.cons_append, contains_cons]
    have : (a :: s).isPrefixOf (a :: (s ++ t)) = true := by
      rw [List.isPrefixOf_iff_prefix]
      exact ⟨t, rfl⟩
    rw [this, Bool.true_or]
set_option maxRecDepth 20000 in
theorem parts (l : List UInt8) : l = l.take (Pw.gap l) ++ (Pw.wd l ++ Pw.rs l) := by
  unfold Pw.wd Pw.rs
  rw [List.take_append_drop, List.take_append_drop]
set_option maxRecDepth 20000 in
theorem rd_plain : ∀ (n : Nat) (l : List UInt8), l.length ≤ n → contains l [61, 63] = false → Pw.rd false l = Pw.pts l
  | n, [], _, _ => by rw [Pw.rd_nil]; rfl
  | 0, a :: r, h, _ => by simp at h
  | n + 1, a :: r, hn, h => by
    have hne : a :: r ≠ [] := List.cons_ne_nil _ _
    have hlt := Pw.rs_lt (a :: r) hne
    have hp := parts (a :: r)
    generalize a :: r = l at *
    have h2 : contains (Pw.wd l ++ Pw.rs l) [61, 63] = false := has_tail _ (by simp) (l.take (Pw.gap l)) _ (by rw [← hp]; exact h)
    have h3 : contains (Pw.rs l) [61, 63] = false := has_tail _ (by simp) (Pw.wd l) _ h2
    have hw : Pw.word (Pw.wd l) = none := by
      unfold Pw.word
      rw [if_neg]
      intro hc
      have e := Pw.trim_pre (Pw.wd l) hc.1
      rw [e] at h2
      have h4 := has_head [61, 63] (trimPrefix (Pw.wd l) [61, 63] ++ Pw.rs l) (by simp)
      rw [show ([61, 63] : List UInt8) ++ (trimPrefix (Pw.wd l) [61, 63] ++ Pw.rs l) = 61 :: 63 :: trimPrefix (Pw.wd l) [61, 63] ++ Pw.rs l from rfl, h2] at h4
      cases h4
    rw [Pw.rd_text false l hne hw, rd_plain n (Pw.rs l) (by omega) h3]
    conv => rhs; rw [hp]
    unfold Pw.pts
    rw [List.map_append, List.map_append]
set_option maxRecDepth 20000 in
theorem pts_sim : ∀ ps : List Int, ps.all Pl.sim = true → Pw.pts (ps.map fun p => Pl.by8 (p % 128)) = ps
  | [], _ => rfl
  | p :: ps, h => by
    rw [List.all_cons, Bool.and_eq_true] at h
    have hp : 32 ≤ p ∧ p ≤ 126 := by
      have := h.1
      unfold Pl.sim at this
      simpa using this
    have ih := pts_sim ps h.2
    unfold Pw.pts at ih ⊢
    rw [List.map_cons, List.map_cons, ih]
    congr 1
    unfold Pw.pt
    have := Pl.by8_nat (p % 128) (by omega) (by omega)
    rw [if_pos (by omega), this]
    omega
set_option maxRecDepth 20000 in
/-- What is written of points is read as them. -/
theorem words_back (ps : List Int) (h : ps.all Pl.isPt = true) : Pw.rd false (Pl.words ps) = ps := by
  unfold Pl.words
  rw [if_pos h]
  by_cases hs : Pl.stands ps = true
  · rw [if_pos hs]
    unfold Pl.stands at hs
    rw [Bool.and_eq_true, Bool.not_eq_true'] at hs
    rw [rd_plain _ _ (Nat.le_refl _) hs.2, Pl.cat_plain ps hs.1, pts_sim ps hs.1]
  · rw [if_neg hs]
    unfold Pl.wq
    by_cases h0 : ps = []
    · subst h0
      rw [if_pos rfl, Pw.rd_nil]
    · rw [if_neg h0, if_pos rfl, List.nil_append]
      have := rd_ww ps [] false [] (.inl rfl) (by simp) (fun p hp => List.all_eq_true.1 h p hp) (by simp [Pl.cat])
      rw [List.nil_append, List.nil_append, Pl.cat_nil] at this
      exact this
/-- No more than 75 signs between blanks, n signs standing ahead. -/
def good : Nat → List UInt8 → Bool
  | _, [] => true
  | n, c :: r => decide ((if c = 32 then 0 else n + 1) ≤ 75) && good (if c = 32 then 0 else n + 1) r
set_option maxRecDepth 20000 in
theorem good_app : ∀ (p r : List UInt8) (n : Nat), (∀ c ∈ p, c ≠ 32) → n + p.length ≤ 75 → good (n + p.length) r = true → good n (p ++ r) = true
  | [], r, n, _, _, h => h
  | c :: p, r, n, hc, hl, h => by
    have h1 := hc c List.mem_cons_self
    simp only [List.length_cons] at hl h
    rw [List.cons_append, good, if_neg h1, decide_eq_true (by omega), Bool.true_and]
    exact good_app p r (n + 1) (fun d hd => hc d (List.mem_cons_of_mem _ hd)) (by omega) (by rw [show n + 1 + p.length = n + (p.length + 1) by omega]; exact h)
set_option maxRecDepth 20000 in
theorem word_len75 (q : List UInt8) (h : q.length ≤ 45) : (Pl.word q).length ≤ 75 := by
  have := Pb.bare_len 15 q (by omega)
  simp [Pl.word]
  omega
set_option maxRecDepth 20000 in
theorem good_ww : ∀ (xs : List Int) (q : List UInt8), q.length ≤ 45 → good 0 (Pl.ww q xs) = true
  | [], q, hq => by
    rw [Pl.ww]
    have := good_app (Pl.word q) [] 0 (fun c hc => (word_sign q c hc).2.1) (by have := word_len75 q hq; omega) rfl
    rw [List.append_nil] at this
    exact this
  | x :: xs, q, hq => by
    have hf := Pl.form_len 4 x
    rw [Pl.ww]
    split
    · refine good_app _ _ 0 (fun c hc => (word_sign q c hc).2.1) (by have := word_len75 q hq; omega) ?_
      rw [good, if_pos rfl, decide_eq_true (by omega), Bool.true_and]
      exact good_ww xs _ (by omega)
    · exact good_ww xs _ (by rw [List.length_append]; omega)
set_option maxRecDepth 20000 in
theorem prt_ww : ∀ (xs : List Int) (q : List UInt8), ∀ c ∈ Pl.ww q xs, Pl.prt c = true
  | [], q, c, h => by
    rw [Pl.ww] at h
    exact (word_sign q c h).2.2
  | x :: xs, q, c, h => by
    rw [Pl.ww] at h
    split at h
    · rcases List.mem_append.1 h with h | h
      · exact (word_sign q c h).2.2
      · rcases List.mem_cons.1 h with rfl | h
        · decide
        · exact prt_ww xs _ c h
    · exact prt_ww xs _ c h
set_option maxRecDepth 20000 in
theorem words_sign (ps : List Int) : ∀ c ∈ Pl.words ps, Pl.prt c = true := by
  intro c h
  unfold Pl.words at h
  split at h
  · rename_i ha
    split at h
    · rename_i hs
      have h1 := Pl.prt_cat ps ha
      unfold Pl.stands at hs
      rw [Bool.and_eq_true] at hs
      rw [hs.1] at h1
      exact List.all_eq_true.1 h1 c h
    · unfold Pl.wq at h
      split at h
      · cases h
      · rw [if_pos rfl, List.nil_append] at h
        exact prt_ww ps [] c h
  · cases h
set_option maxRecDepth 20000 in
/-- Words have at most 75 signs, or none of the text is a word. -/
theorem words_good (ps : List Int) : good 0 (Pl.words ps) = true ∨ hasPrefix (Pl.words ps) [61, 63] = false := by
  unfold Pl.words
  split
  · split
    · rename_i hs
      right
      unfold Pl.stands at hs
      rw [Bool.and_eq_true, Bool.not_eq_true'] at hs
      cases hp : hasPrefix (Pl.cat ps) [61, 63] with
      | false => rfl
      | true =>
        have e := Pw.trim_pre _ hp
        have h4 := has_head [61, 63] (trimPrefix (Pl.cat ps) [61, 63]) (by simp)
        rw [show ([61, 63] : List UInt8) ++ trimPrefix (Pl.cat ps) [61, 63] = Pl.cat ps from e.symm, hs.2] at h4
        cases h4
    · left
      unfold Pl.wq
      split
      · rfl
      · rw [if_pos rfl, List.nil_append]
        exact good_ww ps [] (by simp)
  · exact .inl rfl
end Pc
end Go.Proofs.YtbppdfjigcelkaaGreatDoor
namespace Go.Proofs.YtbppdfjigcelkaaGreatDoor
open Go.RowKit Go.Lib Go.Maps
structure ChW (w : World) : Prop where
  tabs : Lib.Utf8Tabs 3 4 w
  err : ErrCell w
  most : ∃ m : Int, w.cell? ⟨2, 0, none⟩ = some (.int .i64 m)
  names : ∃ (ct : TypeId) (fr : Nat × Nat), w.heap[0]? = some (.cells arr ct fr)
  digits : Tab w
set_option maxRecDepth 20000 in
theorem ChW.lt {w : World} (h : ChW w) : 1 < w.heap.size := World.block_lt_of_cell? _ _ (h.digits 0 (by omega))
set_option maxRecDepth 20000 in
theorem ChW.below {w w' : World} (h : ChW w) (hb : Below w.heap.size w w') : ChW w' where
  tabs := tabsD_below h.tabs hb
  err := h.err.below hb
  most := by
    obtain ⟨m, hm⟩ := h.most
    exact ⟨m, (hb.cell (p := ⟨2, 0, none⟩) (World.block_lt_of_cell? _ _ hm)).trans hm⟩
  names := by
    obtain ⟨ct, fr, hC⟩ := h.names
    exact ⟨ct, fr, (hb.block _ (heap_lt hC)).trans hC⟩
  digits := h.digits.on h.lt hb
set_option maxRecDepth 20000 in
theorem ptsOf {B : Nat} {o : Option Addr} {P : List Int} {cap : Nat} {w : World} (h : OwnN B (.slice o P.length cap) P w) : PtsAt w.heap.size w o P := fun k hk => by
  obtain ⟨a, h1, -, h2, h3⟩ := h.inL k hk
  exact ⟨a, h1, h2, h3⟩
set_option maxRecDepth 20000 in
/-- The law's own test of two lists of numbers. -/
theorem lawIntsC (a b : Option Addr) (F : List Int) (cap cap' : Nat) (w : World) (hF : PtsAt w.heap.size w a F) (hG : PtsAt w.heap.size w b F) (hlen : F.length ≤ 1048576) :
    Calls Tryz.prog 8 #[.slice a F.length cap, .slice b F.length cap'] w fun e w' => e = .returned (.bool true) ∧ Below w.heap.size w w' := by
  have HF := mkHid hF
  have HG := mkHid hG
  clear hF hG
  go_enter Tryz.func8, Tryz.ntmps8
  go_wp2
  go_loopw [5] (fun i wr => ∃ k : Nat, k ≤ F.length ∧ i = .int .i64 k ∧ Below w.heap.size w wr) (fun i _ => F.length - (Lib.intOf i).toNat)
  case atStart => exact ⟨0, Nat.zero_le _, rfl, Below.refl _ _⟩
  case round =>
    obtain ⟨k, hk, rfl, hb0⟩ := hrel
    by_cases hlt : k < F.length
    · obtain ⟨a', ea, ha, hc0⟩ := (HF.out.below hb0) k hlt
      obtain ⟨b', eb, hb, hd0⟩ := (HG.out.below hb0) k hlt
      subst ea eb
      generalize F[k] = f at hc0 hd0
      go_wp2
      go_region
      all_goals
        go_wp2
        go_roundw
        case rel => exact ⟨k + 1, by omega, by go_num, hb0.drew⟩
        case measure => simp [Lib.intOf]; omega
    · go_wp2
      go_ret
      exact ⟨rfl, hb0⟩
set_option maxRecDepth 20000 in
theorem ww_len : ∀ (xs : List Int) (q : List UInt8), q.length ≤ 45 → (Pl.ww q xs).length ≤ 76 * (xs.length + 1)
  | [], q, hq => by
    rw [Pl.ww]
    have := Pc.word_len75 q hq
    simp
    omega
  | x :: xs, q, hq => by
    have hf := Pl.form_len 4 x
    rw [Pl.ww]
    split
    · have h1 := ww_len xs (Pl.form 4 x) (by omega)
      have h2 := Pc.word_len75 q hq
      simp only [List.length_append, List.length_cons]
      omega
    · have h1 := ww_len xs (q ++ Pl.form 4 x) (by rw [List.length_append]; omega)
      simp only [List.length_cons]
      omega
set_option maxRecDepth 20000 in
theorem words_len (ps : List Int) : (Pl.words ps).length ≤ 80 * (ps.length + 1) := by
  unfold Pl.words
  split
  · split
    · have := Pl.cat_len ps
      omega
    · unfold Pl.wq
      split
      · simp
      · rw [if_pos rfl, List.nil_append]
        have := ww_len ps [] (by simp)
        omega
  · simp
set_option maxRecDepth 20000 in
theorem words_pts (ps : List Int) (h : Pl.words ps ≠ []) : ps.all Pl.isPt = true := by
  cases hp : ps.all Pl.isPt with
  | true => rfl
  | false => exact absurd (by unfold Pl.words; rw [hp, if_neg (by decide)]) h
set_option maxRecDepth 20000 in
/-- What is encoded is decoded. -/
theorem enc_taken (set : Int) (P : List Int) (l : List UInt8) (h : encA set P = some l) : decA set l = some P := by
  unfold encA at h
  split at h
  · cases h
  · rename_i hn
    unfold decA
    rw [if_neg (by omega)]
    exact Pd.dec_enc set (by omega) P l h
set_option maxRecDepth 20000 in
theorem enc_len (set : Int) (P : List Int) (l : List UInt8) (h : encA set P = some l) : l.length ≤ 4 * P.length := by
  unfold encA at h
  split at h
  · cases h
  · have hb : ∀ (qs : List Int) (out l : List UInt8), Pl.enc (Pl.form set) out qs = some l → l.length ≤ out.length + 4 * qs.length := by
      intro qs
      induction qs with
      | nil => intro out l h; rw [Pl.enc] at h; cases h; simp
      | cons q r ih =>
        intro out l h
        rw [Pl.enc] at h
        split at h
        · cases h
        · have h1 := ih _ _ h
          have h2 := Pl.form_len set q
          rw [List.length_append] at h1
          rw [List.length_cons]
          omega
    have := hb P [] l h
    simpa using this
set_option maxRecDepth 20000 in
/-- What is taken is written as the bytes that were there. -/
theorem taken_enc (set : Int) (l : List UInt8) (ps : List Int) (hl : l.length ≤ 100000) (h : decA set l = some ps) : encA set ps = some l := by
  unfold decA at h
  split at h
  · cases h
  · rename_i hn
    have hp := Pw.dec_len set l.length [] l ps (Nat.le_refl _) h
    simp only [List.length_nil, Nat.zero_add] at hp
    unfold encA
    rw [if_neg (by omega)]
    exact Pd.enc_dec set (by omega) l ps h
set_option maxRecDepth 20000 in
theorem fieldP0 (b : Bool) (i : Int) (o : Option Addr) (m c : Nat) (w : World) : Sem.run Tryz.prog (Instr.field 30 (.agg #[.bool b, .int .i64 i, .slice o m c]) 0) w = .ok (.bool b) w := by kernel_rfl
end Go.Proofs.YtbppdfjigcelkaaGreatDoor
namespace Go.Proofs.YtbppdfjigcelkaaGreatDoor
open Go.ChangeShapes Go.WideShapes Go.ChangeAt Go.RowKit
theorem wf8 (n : Int) (h : (Lit.int .u8 n).wf = true) : 0 ≤ n ∧ n < 256 := by
  have h' : (decide (IntKind.u8.min ≤ n) && decide (n ≤ IntKind.u8.max)) = true := h
  simp only [Bool.and_eq_true, decide_eq_true_eq] at h'
  have e0 : IntKind.u8.min = 0 := by decide
  have e1 : IntKind.u8.max = 255 := by decide
  omega
/-- Bytes as an argument. -/
theorem open_code {H : Type} {enc : TypeId × Value → H} {P : Program} {W : World} {sp : Nat → Bool} {t e : TypeId} {v : Value} {d : DataW H} {ps : List MemPlace}
    (ht : P.underlying t = some (.slice e)) (he : P.underlying e = some (.int .u8)) (ce : P.cellsOf e = 1) {r : Reach} {b0 : Nat} (hval : Value.okWide P W r b0 t v) (h : DataW.Trod enc P W 0 sp true t v d ps) :
    ∃ o c cap, v = .slice o c.length cap ∧ Code W.heap.size W o c ∧ c.length ≤ maxLen := by
  obtain ⟨a, len, cap, rfl⟩ := okWide_slice ht hval
  obtain ⟨fuel, hx⟩ := h
  rcases open_ints ht he ce hx with ⟨hc, -⟩ | ⟨a', len', cap', zs, hc, -, hl, hm, hz, -, hcell, hwf⟩
  · simp [Value.cells] at hc
    obtain ⟨rfl, rfl, rfl⟩ := hc
    exact ⟨none, [], 0, rfl, fun i hi => absurd hi (Nat.not_lt_zero _), Nat.zero_le _⟩
  · simp [Value.cells] at hc
    obtain ⟨rfl, rfl, rfl⟩ := hc
    have hlz : len ≤ zs.length := by rw [hz]; split <;> omega
    refine ⟨some a', (zs.take len).map fun n => UInt8.ofNat n.toNat, cap, by rw [List.length_map, List.length_take]; simp; omega, ?_, by rw [List.length_map, List.length_take]; omega⟩
    intro i hi
    rw [List.length_map, List.length_take] at hi
    have hc := hcell i (by omega)
    refine ⟨a', rfl, ?_, ?_⟩
    · have hlt : (a'.add i).block < W.heap.size := World.block_lt_of_cell? _ _ hc
      rw [← addr_block a' i]; exact hlt
    · have hw := wf8 zs[i] (hwf _ (List.getElem_mem (by omega)))
      have e : (((zs.take len).map fun n => UInt8.ofNat n.toNat)[i]'(by rw [List.length_map, List.length_take]; omega)).toNat = zs[i].toNat := by
        rw [List.getElem_map, List.getElem_take]
        simp [UInt8.toNat_ofNat']
        omega
      rw [e, hc, List.getD_eq_getElem?_getD, List.getElem?_eq_getElem (by omega)]
      show some (Value.int .u8 zs[i]) = _
      congr 2
      omega
end Go.Proofs.YtbppdfjigcelkaaGreatDoor
