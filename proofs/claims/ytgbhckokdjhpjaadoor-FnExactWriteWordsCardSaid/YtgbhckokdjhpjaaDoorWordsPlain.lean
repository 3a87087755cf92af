/- Plain mathematics of WriteWords: points, their bytes, words. -/
import Derived.Test.YtgbhckokdjhpjaaDoorPoints
import Derived.Test.YtgbhckokdjhpjaaDoorB64Plain
import Derived.Lib.IndexMore
import Derived.Lib.Small
namespace Go.Proofs.YtgbhckokdjhpjaaDoor
open Go.RowKit Go.Lib Go.Maps
namespace Pl
theorem isPt_iff (p : Int) : isPt p = true ↔ 0 ≤ p ∧ p ≤ 1114111 ∧ ¬ (55296 ≤ p ∧ p ≤ 57343) := by
  unfold isPt
  by_cases h1 : 0 ≤ p <;> by_cases h2 : p ≤ 1114111 <;> by_cases h3 : 55296 ≤ p <;> by_cases h4 : p ≤ 57343 <;> simp [h1, h2, h3, h4]
theorem form4 (p : Int) (h : isPt p = true) : form 4 p = (if p < 128 then [by8 p] else if p < 2048 then [by8 (192 + p / 64), by8 (128 + p % 64)] else if p < 65536 then [by8 (224 + p / 4096), by8 (128 + p / 64 % 64), by8 (128 + p % 64)] else
    [by8 (240 + p / 262144), by8 (128 + p / 4096 % 64), by8 (128 + p / 64 % 64), by8 (128 + p % 64)]) := by
  unfold form
  rw [if_neg (by rw [h]; decide), if_neg (by decide), if_neg (by decide), if_neg (by decide), if_pos rfl]
theorem form4_no (p : Int) (h : isPt p = false) : form 4 p = [] := by
  unfold form
  rw [if_pos h]
theorem form4_ne (p : Int) (h : isPt p = true) : form 4 p ≠ [] := by
  rw [form4 p h]
  repeat' split
  all_goals simp
theorem form4_len (p : Int) (h : isPt p = true) : ((form 4 p).length : Int) = runeLen p := by
  have hr := (isPt_iff p).1 h
  rw [form4 p h]
  unfold runeLen
  repeat' split
  all_goals first | rfl | omega
def cat (ps : List Int) : List UInt8 := ps.flatMap (form 4)
theorem cat_cons (p : Int) (ps : List Int) : cat (p :: ps) = form 4 p ++ cat ps := by simp [cat]
theorem cat_nil : cat [] = [] := rfl
theorem cat_append (a b : List Int) : cat (a ++ b) = cat a ++ cat b := by simp [cat]
theorem cat_len : ∀ ps : List Int, (cat ps).length ≤ 4 * ps.length
  | [] => by simp [cat]
  | p :: ps => by
    have := cat_len ps
    have h1 := form_len 4 p
    rw [cat_cons, List.length_append, List.length_cons]
    omega
theorem enc_cat : ∀ (ps : List Int) (out : List UInt8), enc (form 4) out ps = if ps.all isPt = true then some (out ++ cat ps) else none
  | [], out => by simp [enc, cat]
  | p :: ps, out => by
    rw [enc]
    cases h : isPt p
    · rw [form4_no p h]
      simp [h]
    · have hne := form4_ne p h
      rw [if_neg (by simp [hne]), enc_cat ps, cat_cons]
      simp [h]
/-- A byte that may stand as it is. -/
def prt (c : UInt8) : Bool := decide (32 ≤ c.toNat) && decide (c.toNat ≤ 126)
def sim (p : Int) : Bool := decide (32 ≤ p) && decide (p ≤ 126)
theorem by8_nat (n : Int) (h0 : 0 ≤ n) (h1 : n < 256) : (by8 n).toNat = n.toNat := by
  have := by8_val n h0 h1
  omega
theorem prt_form (p : Int) (h : isPt p = true) : (form 4 p).all prt = sim p := by
  have hr := (isPt_iff p).1 h
  rw [form4 p h]
  by_cases h1 : p < 128
  · rw [if_pos h1]
    simp only [List.all_cons, List.all_nil, Bool.and_true]
    unfold prt sim
    rw [by8_nat p (by omega) (by omega)]
    have e1 : (32 ≤ p.toNat) = (32 ≤ p) := propext (by omega)
    have e2 : (p.toNat ≤ 126) = (p ≤ 126) := propext (by omega)
    simp only [e1, e2]
  · have hs : sim p = false := by
      unfold sim
      rw [decide_eq_false (p := p ≤ 126) (by omega), Bool.and_false]
    have hb : ∀ n : Int, 192 ≤ n → n < 256 → prt (by8 n) = false := by
      intro n h0 h2
      unfold prt
      rw [by8_nat n (by omega) h2, decide_eq_false (p := n.toNat ≤ 126) (by omega), Bool.and_false]
    rw [hs, if_neg h1]
    by_cases h2 : p < 2048
    · rw [if_pos h2, List.all_cons, hb _ (by omega) (by omega), Bool.false_and]
    by_cases h3 : p < 65536
    · rw [if_neg h2, if_pos h3, List.all_cons, hb _ (by omega) (by omega), Bool.false_and]
    · rw [if_neg h2, if_neg h3, List.all_cons, hb _ (by omega) (by omega), Bool.false_and]
theorem prt_cat : ∀ ps : List Int, ps.all isPt = true → (cat ps).all prt = ps.all sim
  | [], _ => rfl
  | p :: ps, h => by
    rw [List.all_cons, Bool.and_eq_true] at h
    rw [cat_cons, List.all_append, prt_form p h.1, prt_cat ps h.2, List.all_cons]
theorem cat_plain : ∀ ps : List Int, ps.all sim = true → cat ps = ps.map fun p => by8 (p % 128)
  | [], _ => rfl
  | p :: ps, h => by
    rw [List.all_cons, Bool.and_eq_true] at h
    have hp : 32 ≤ p ∧ p ≤ 126 := by
      have := h.1
      unfold sim at this
      simpa using this
    rw [cat_cons, cat_plain ps h.2, List.map_cons, form4 p ((isPt_iff p).2 (by omega)), if_pos (by omega), show p % 128 = p from by omega]
    rfl
def stands (ps : List Int) : Bool := ps.all sim && !(contains (cat ps) [61, 63])
def word (p : List UInt8) : List UInt8 := [61, 63, 117, 116, 102, 45, 56, 63, 66, 63] ++ Pb.bare p ++ [63, 61]
theorem word_ne (p : List UInt8) : word p ≠ [] := by simp [word]
/-- The words of points, the bytes p being those of the word under way. -/
def ww (p : List UInt8) : List Int → List UInt8
  | [] => word p
  | x :: xs => if 45 < p.length + (form 4 x).length then word p ++ 32 :: ww (form 4 x) xs else ww (p ++ form 4 x) xs
def wq (out : List UInt8) (ps : List Int) : List UInt8 := if ps = [] then out else (if out = [] then [] else out ++ [32]) ++ ww [] ps
def words (ps : List Int) : List UInt8 := if ps.all isPt = true then (if stands ps = true then cat ps else wq [] ps) else []
theorem ww_begin (x : Int) (xs : List Int) : ww [] (x :: xs) = ww (form 4 x) xs := by
  rw [ww, if_neg (by have := form_len 4 x; simp; omega), List.nil_append]
theorem ww_full (q : List UInt8) (ps : List Int) (k : Nat) (hk : k < ps.length) (h : 45 < q.length + (form 4 ps[k]).length) : ww q (ps.drop k) = word q ++ 32 :: ww [] (ps.drop k) := by
  rw [List.drop_eq_getElem_cons hk, ww_begin, ww, if_pos h]
theorem ww_full2 (q : List UInt8) (ps : List Int) (k : Nat) (hk : k < ps.length) (h : 45 < q.length + (form 4 ps[k]).length) : ww q (ps.drop k) = word q ++ 32 :: ww (form 4 ps[k]) (ps.drop (k + 1)) := by
  rw [List.drop_eq_getElem_cons hk, ww, if_pos h]
theorem ww_more (q : List UInt8) (ps : List Int) (k : Nat) (hk : k < ps.length) (h : ¬ 45 < q.length + (form 4 ps[k]).length) : ww q (ps.drop k) = ww (q ++ form 4 ps[k]) (ps.drop (k + 1)) := by
  rw [List.drop_eq_getElem_cons hk, ww, if_neg h]
theorem ww_done (q : List UInt8) (ps : List Int) (k : Nat) (hk : ps.length ≤ k) : ww q (ps.drop k) = word q := by
  rw [List.drop_eq_nil_of_le hk, ww]
theorem wq_next (pre q out : List UInt8) (ps : List Int) (j : Nat) (hj : j < ps.length) (h : 45 < q.length + (form 4 ps[j]).length) (hp : pre ++ ww q (ps.drop j) = out) : wq (pre ++ word q) (ps.drop j) = out := by
  have hne : pre ++ word q ≠ [] := by simp [word_ne]
  unfold wq
  rw [if_neg (by intro e; have := congrArg List.length e; simp at this; omega), if_neg hne, ← hp, ww_full q ps j hj h]
  simp
theorem wq_done (pre q out : List UInt8) (ps : List Int) (j : Nat) (hj : ps.length ≤ j) (hp : pre ++ ww q (ps.drop j) = out) : wq (pre ++ word q) (ps.drop j) = out := by
  unfold wq
  rw [if_pos (List.drop_eq_nil_of_le hj), ← hp, ww_done q ps j hj]
theorem wq_start (out : List UInt8) (ps : List Int) (k : Nat) (hk : k < ps.length) : wq out (ps.drop k) = (if out = [] then [] else out ++ [32]) ++ ww [] (ps.drop k) := by
  unfold wq
  rw [if_neg (by intro e; have := congrArg List.length e; simp at this; omega)]
theorem wq_end (out : List UInt8) (ps : List Int) (k : Nat) (hk : ps.length ≤ k) : wq out (ps.drop k) = out := by
  unfold wq
  rw [if_pos (List.drop_eq_nil_of_le hk)]
theorem get_at (D : ByteArray) (z f t : List UInt8) (k : Nat) (h : D.data.toList = z ++ (f ++ t)) (hk : k < f.length) : z.length + k < D.size ∧ D.get! (z.length + k) = f[k] := by
  have hl : D.size = z.length + (f.length + t.length) := by
    have := congrArg List.length h
    simpa using this
  have hlt : z.length + k < D.size := by omega
  refine ⟨hlt, ?_⟩
  have e : D.get! (z.length + k) = D.data.toList[z.length + k]'(by simpa using hlt) := by
    show D.data[z.length + k]! = _
    rw [getElem!_pos D.data (z.length + k) hlt]
    simp
  rw [e]
  simp only [h]
  rw [List.getElem_append_right (by omega)]
  simp only [Nat.add_sub_cancel_left]
  rw [List.getElem_append_left hk]
theorem dec1 (D : ByteArray) (i a : Nat) (ha : (D.get! i).toNat = a) (h : a < 128) : Utf8.decode D i = (a, 1) := by
  unfold Utf8.decode
  simp only [Nat.add_zero, ha]
  rw [if_pos h]
theorem dec2 (D : ByteArray) (i a b : Nat) (ha : (D.get! i).toNat = a) (hb : (D.get! (i + 1)).toNat = b) (h1 : i + 1 < D.size) (ra : 194 ≤ a ∧ a < 224) (rb : 128 ≤ b ∧ b < 192) : Utf8.decode D i = (a % 32 * 64 + b % 64, 2) := by
  unfold Utf8.decode
  have e1 : (a / 32 == 6) = true := by simp; omega
  have e2 : (b / 64 == 2) = true := by simp; omega
  simp only [Nat.add_zero, ha, hb, e1, e2, h1, decide_true, Bool.and_true]
  rw [if_neg (by omega), if_pos trivial, if_pos (by omega)]
theorem dec3 (D : ByteArray) (i a b c : Nat) (ha : (D.get! i).toNat = a) (hb : (D.get! (i + 1)).toNat = b) (hc : (D.get! (i + 2)).toNat = c) (h1 : i + 1 < D.size) (h2 : i + 2 < D.size) (ra : 224 ≤ a ∧ a < 240) (rb : 128 ≤ b ∧ b < 192) (rc : 128 ≤ c ∧ c < 192)
    (hv : 2048 ≤ a % 16 * 4096 + b % 64 * 64 + c % 64) (hs : a % 16 * 4096 + b % 64 * 64 + c % 64 < 55296 ∨ 57344 ≤ a % 16 * 4096 + b % 64 * 64 + c % 64) : Utf8.decode D i = (a % 16 * 4096 + b % 64 * 64 + c % 64, 3) := by
  unfold Utf8.decode
  have e0 : (a / 32 == 6) = false := by simp; omega
  have e1 : (a / 16 == 14) = true := by simp; omega
  have e2 : (b / 64 == 2) = true := by simp; omega
  have e3 : (c / 64 == 2) = true := by simp; omega
  simp only [Nat.add_zero, ha, hb, hc, e0, e1, e2, e3, h1, h2, decide_true, Bool.and_true]
  have hval : Utf8.valid ((a % 16 * 4096 + b % 64 * 64 + c % 64 : Nat) : Int) = true := by
    unfold Utf8.valid
    simp only [Bool.or_eq_true, Bool.and_eq_true, decide_eq_true_eq]
    omega
  rw [if_neg (by omega), if_neg (by simp), if_pos trivial, hval, if_pos (by simp; omega)]
theorem dec4 (D : ByteArray) (i a b c d : Nat) (ha : (D.get! i).toNat = a) (hb : (D.get! (i + 1)).toNat = b) (hc : (D.get! (i + 2)).toNat = c) (hd : (D.get! (i + 3)).toNat = d) (h1 : i + 1 < D.size) (h2 : i + 2 < D.size) (h3 : i + 3 < D.size) (ra : 240 ≤ a ∧ a < 245) (rb : 128 ≤ b ∧ b < 192) (rc : 128 ≤ c ∧ c < 192) (rd : 128 ≤ d ∧ d < 192)
    (hv : 65536 ≤ a % 8 * 262144 + b % 64 * 4096 + c % 64 * 64 + d % 64) (hs : a % 8 * 262144 + b % 64 * 4096 + c % 64 * 64 + d % 64 ≤ 1114111) : Utf8.decode D i = (a % 8 * 262144 + b % 64 * 4096 + c % 64 * 64 + d % 64, 4) := by
  unfold Utf8.decode
  have e0 : (a / 32 == 6) = false := by simp; omega
  have e1 : (a / 16 == 14) = false := by simp; omega
  have e9 : (a / 8 == 30) = true := by simp; omega
  have e2 : (b / 64 == 2) = true := by simp; omega
  have e3 : (c / 64 == 2) = true := by simp; omega
  have e4 : (d / 64 == 2) = true := by simp; omega
  simp only [Nat.add_zero, ha, hb, hc, hd, e0, e1, e2, e3, e4, e9, h1, h2, h3, decide_true, Bool.and_true]
  have hval : Utf8.valid ((a % 8 * 262144 + b % 64 * 4096 + c % 64 * 64 + d % 64 : Nat) : Int) = true := by
    unfold Utf8.valid
    simp only [Bool.or_eq_true, Bool.and_eq_true, decide_eq_true_eq]
    omega
  rw [if_neg (by omega), if_neg (by simp), if_neg (by simp), if_pos trivial, hval, if_pos (by simp; omega)]
theorem decode_form (D : ByteArray) (z t : List UInt8) (p : Int) (hp : isPt p = true) (h : D.data.toList = z ++ (form 4 p ++ t)) : Utf8.decode D z.length = (p.toNat, (form 4 p).length) := by
  have hr := (isPt_iff p).1 hp
  have g := get_at D z (form 4 p) t
  rw [form4 p hp] at g h ⊢
  by_cases h1 : p < 128
  · rw [if_pos h1] at g h ⊢
    obtain ⟨_, a0⟩ := g 0 h (by simp)
    exact dec1 D _ _ (by rw [Nat.add_zero] at a0; rw [a0]; exact by8_nat p (by omega) (by omega)) (by omega)
  rw [if_neg h1] at g h ⊢
  by_cases h2 : p < 2048
  · rw [if_pos h2] at g h ⊢
    obtain ⟨_, a0⟩ := g 0 h (by simp)
    obtain ⟨s1, a1⟩ := g 1 h (by simp)
    rw [Nat.add_zero] at a0
    rw [dec2 D _ (192 + p / 64).toNat (128 + p % 64).toNat (by rw [a0]; exact by8_nat _ (by omega) (by omega)) (by rw [a1]; exact by8_nat _ (by omega) (by omega)) s1 (by omega) (by omega)]
    exact Prod.ext (by show _ = p.toNat; omega) rfl
  rw [if_neg h2] at g h ⊢
  by_cases h3 : p < 65536
  · rw [if_pos h3] at g h ⊢
    obtain ⟨_, a0⟩ := g 0 h (by simp)
    obtain ⟨s1, a1⟩ := g 1 h (by simp)
    obtain ⟨s2, a2⟩ := g 2 h (by simp)
    rw [Nat.add_zero] at a0
    have e : (224 + p / 4096).toNat % 16 * 4096 + (128 + p / 64 % 64).toNat % 64 * 64 + (128 + p % 64).toNat % 64 = p.toNat := by omega
    rw [dec3 D _ (224 + p / 4096).toNat (128 + p / 64 % 64).toNat (128 + p % 64).toNat (by rw [a0]; exact by8_nat _ (by omega) (by omega)) (by rw [a1]; exact by8_nat _ (by omega) (by omega)) (by rw [a2]; exact by8_nat _ (by omega) (by omega)) s1 s2 (by omega) (by omega) (by omega) (by omega) (by omega), e]
    rfl
  · rw [if_neg h3] at g h ⊢
    obtain ⟨_, a0⟩ := g 0 h (by simp)
    obtain ⟨s1, a1⟩ := g 1 h (by simp)
    obtain ⟨s2, a2⟩ := g 2 h (by simp)
    obtain ⟨s3, a3⟩ := g 3 h (by simp)
    rw [Nat.add_zero] at a0
    have e : (240 + p / 262144).toNat % 8 * 262144 + (128 + p / 4096 % 64).toNat % 64 * 4096 + (128 + p / 64 % 64).toNat % 64 * 64 + (128 + p % 64).toNat % 64 = p.toNat := by omega
    rw [dec4 D _ (240 + p / 262144).toNat (128 + p / 4096 % 64).toNat (128 + p / 64 % 64).toNat (128 + p % 64).toNat (by rw [a0]; exact by8_nat _ (by omega) (by omega)) (by rw [a1]; exact by8_nat _ (by omega) (by omega)) (by rw [a2]; exact by8_nat _ (by omega) (by omega)) (by rw [a3]; exact by8_nat _ (by omega) (by omega)) s1 s2 s3 (by omega) (by omega) (by omega) (by omega) (by omega) (by omega), e]
    rfl
end Pl
end Go.Proofs.YtgbhckokdjhpjaaDoor
