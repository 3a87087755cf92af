
/- Replies: plain. -/
import Derived.Test.YtmclnkcpflehdaaDoorUnstuffPlain
import Derived.Test.YtmclnkcpflehdaaDoorGenReply
namespace Go.Proofs.YtmclnkcpflehdaaDoor
namespace Rl
open Go.Lib Pl
def dg (c : UInt8) : Bool := decide (48 ≤ c.toNat) && decide (c.toNat ≤ 57)
def at_ (x : List UInt8) (i : Nat) : UInt8 := x[i]?.getD 0
/-- Whether a line is one of a reply. -/
def ok (x : List UInt8) : Bool := decide (4 ≤ x.length) && ((dg (at_ x 0) && (dg (at_ x 1) && dg (at_ x 2))) && ((decide (50 ≤ (at_ x 0).toNat) && decide ((at_ x 0).toNat ≤ 53)) && (at_ x 3 == 32 || at_ x 3 == 45)))
def code (x : List UInt8) : Int := (((at_ x 0).toNat - 48) * 100 + ((at_ x 1).toNat - 48) * 10 + ((at_ x 2).toNat - 48) : Nat)
def more (x : List UInt8) : Bool := at_ x 3 == 45
def text (x : List UInt8) : ByteArray := ⟨(x.drop 4).toArray⟩
/-- The replies that lines come to: those that are whole, the code and the texts of the one that is begun. -/
def rd : List (List UInt8) → List GReply → Int → List ByteArray → Option (List GReply)
  | [], R, _, P => if P = [] then some R else none
  | x :: r, R, c, P => if ok x then (if P ≠ [] ∧ c ≠ code x then none else if more x then rd r R (code x) (P ++ [text x]) else rd r (R ++ [⟨code x, P ++ [text x]⟩]) 0 []) else none
set_option maxRecDepth 20000 in
theorem rd_step (L : List (List UInt8)) (k : Nat) (h : k < L.length) (R : List GReply) (c : Int) (P : List ByteArray) : rd (L.drop k) R c P = if ok L[k] then (if P ≠ [] ∧ c ≠ code L[k] then none else if more L[k] then rd (L.drop (k + 1)) R (code L[k]) (P ++ [text L[k]]) else rd (L.drop (k + 1)) (R ++ [⟨code L[k], P ++ [text L[k]]⟩]) 0 []) else none := by
  rw [List.drop_eq_getElem_cons h, rd]
set_option maxRecDepth 20000 in
theorem rd_end (L : List (List UInt8)) (k : Nat) (h : L.length ≤ k) (R : List GReply) (c : Int) (P : List ByteArray) : rd (L.drop k) R c P = if P = [] then some R else none := by
  rw [List.drop_eq_nil_of_le h, rd]
/-- One line more, and what comes of the rest. -/
def rdS (ok : List UInt8 → Bool) (x : List UInt8) (R : List GReply) (c : Int) (P : List ByteArray) (K : List GReply → Int → List ByteArray → Option (List GReply)) : Option (List GReply) :=
  if ok x then (if P ≠ [] ∧ c ≠ code x then none else if more x then K R (code x) (P ++ [text x]) else K (R ++ [⟨code x, P ++ [text x]⟩]) 0 []) else none
/-- The same, cut off a text line by line. -/
def rdF : Nat → List UInt8 → List GReply → Int → List ByteArray → Option (List GReply)
  | 0, _, _, _, _ => none
  | f + 1, t, R, c, P => if t = [] then (if P = [] then some R else none) else if (cut t crs).2.2 = true then rdS ok (cut t crs).1 R c P (rdF f (cut t crs).2.1) else none
def rdT (t : List UInt8) (R : List GReply) (c : Int) (P : List ByteArray) : Option (List GReply) := rdF (t.length + 1) t R c P
/-- Whether a text ends with a line end. -/
def ends (t : List UInt8) : Bool := decide (2 ≤ t.length) && (t.drop (t.length - 2) == [13, 10])
set_option maxRecDepth 20000 in
theorem ends_no (t : List UInt8) (h : ∀ j, crlf t j = false) : ends t = false := by
  unfold ends
  by_cases h2 : 2 ≤ t.length
  · have := h (t.length - 2)
    unfold crlf at this
    rw [List.take_of_length_le (by simp; omega)] at this
    rw [this, Bool.and_false]
  · rw [decide_eq_false h2, Bool.false_and]
set_option maxRecDepth 20000 in
theorem ends_cons (x y : List UInt8) : (y = [] ∨ ends y = true) ↔ ends (x ++ 13 :: 10 :: y) = true := by
  have hl : (x ++ 13 :: 10 :: y).length = x.length + 2 + y.length := by simp; omega
  unfold ends
  rw [decide_eq_true (by omega : 2 ≤ (x ++ 13 :: 10 :: y).length), Bool.true_and]
  match y with
  | [] =>
    simp only [true_or, true_iff]
    rw [hl, show x.length + 2 + [].length - 2 = x.length by simp, List.drop_left]
    rfl
  | [a] =>
    rw [hl, show x.length + 2 + [a].length - 2 = x.length + 1 by simp, List.drop_length_add_append]
    simp
  | a :: b :: r =>
    rw [hl, show x.length + 2 + (a :: b :: r).length - 2 = x.length + ((a :: b :: r).length - 2 + 1 + 1) by simp; omega, List.drop_length_add_append]
    simp
set_option maxRecDepth 20000 in
theorem rdF_eq : ∀ (f : Nat) (t : List UInt8) (R : List GReply) (c : Int) (P : List ByteArray), t.length < f → rdF f t R c P = if t = [] ∨ ends t = true then rd (lines t) R c P else none := by
  intro f
  induction f with
  | zero => intro t R c P h; omega
  | succ f ih =>
    intro t R c P h
    by_cases ht : t = []
    · subst ht
      rw [if_pos (Or.inl rfl)]
      rfl
    · rcases cut_cases t with ⟨h1, h2⟩ | ⟨x, y, hr, hc, hno⟩
      · rw [rdF, if_neg ht, h1, if_neg (by simp), if_neg]
        rintro (e | e)
        · exact ht e
        · rw [ends_no t h2] at e; cases e
      · have hlen : t.length = x.length + 2 + y.length := by rw [hr]; simp; omega
        have hli : lines t = x :: lines y := by
          rw [hr]
          exact lines_cons x y (by rw [← hr]; exact hno)
        have hen : (t = [] ∨ ends t = true) ↔ (y = [] ∨ ends y = true) := by
          rw [ends_cons x y, ← hr]
          exact ⟨fun h => h.elim (fun e => absurd e ht) id, Or.inr⟩
        have hK : rdF f y = fun R c P => if y = [] ∨ ends y = true then rd (lines y) R c P else none := by
          funext R c P
          exact ih y R c P (by omega)
        rw [rdF, if_neg ht, hc, if_pos rfl, hli]
        show rdS ok x R c P (rdF f y) = _
        rw [hK]
        by_cases hy : y = [] ∨ ends y = true
        · rw [if_pos (hen.2 hy)]
          simp only [if_pos hy]
          rfl
        · rw [if_neg (fun h => hy (hen.1 h))]
          simp only [if_neg hy]
          unfold rdS
          split <;> (try rfl)
          split <;> (try rfl)
          split <;> rfl
set_option maxRecDepth 20000 in
theorem rdF_all (f : Nat) (t : List UInt8) (R : List GReply) (c : Int) (P : List ByteArray) (h : t.length < f) : rdF f t R c P = rdT t R c P := by
  rw [rdT, rdF_eq f t R c P h, rdF_eq _ t R c P (Nat.lt_succ_self _)]
set_option maxRecDepth 20000 in
theorem rdT_nil (R : List GReply) (c : Int) (P : List ByteArray) : rdT [] R c P = if P = [] then some R else none := by
  rw [rdT, rdF, if_pos rfl]
set_option maxRecDepth 20000 in
theorem rdT_no (t : List UInt8) (x y : List UInt8) (R : List GReply) (c : Int) (P : List ByteArray) (ht : t ≠ []) (hc : cut t crs = (x, y, false)) : rdT t R c P = none := by
  rw [rdT, rdF, if_neg ht, hc, if_neg (by simp)]
set_option maxRecDepth 20000 in
theorem rdT_step (t : List UInt8) (x y : List UInt8) (R : List GReply) (c : Int) (P : List ByteArray) (ht : t ≠ []) (hc : cut t crs = (x, y, true)) : rdT t R c P = if ok x then (if P ≠ [] ∧ c ≠ code x then none else if more x then rdT y R (code x) (P ++ [text x]) else rdT y (R ++ [⟨code x, P ++ [text x]⟩]) 0 []) else none := by
  have h1 := cut_found t (by rw [hc])
  rw [hc] at h1
  simp only at h1
  have hK : rdF t.length y = rdT y := by
    funext R c P
    exact rdF_all t.length y R c P (by omega)
  rw [rdT, rdF, if_neg ht, hc, if_pos rfl]
  show rdS ok x R c P (rdF t.length y) = _
  rw [hK]
  rfl
/-- What ReadReplies answers. -/
def ans (t : ByteArray) : Option (List GReply) := if t.size ≤ 100000 then rdT t.data.toList [] 0 [] else none
set_option maxRecDepth 20000 in
theorem ans_spec (t : ByteArray) : ans t = if t.size ≤ 100000 ∧ (t.data.toList = [] ∨ ends t.data.toList = true) then rd (lines t.data.toList) [] 0 [] else none := by
  unfold ans
  by_cases h : t.size ≤ 100000
  · rw [if_pos h, rdT, rdF_eq _ _ _ _ _ (Nat.lt_succ_self _)]
    by_cases h2 : t.data.toList = [] ∨ ends t.data.toList = true
    · rw [if_pos h2, if_pos ⟨h, h2⟩]
    · rw [if_neg h2, if_neg (fun e => h2 e.2)]
  · rw [if_neg h, if_neg (fun e => h e.1)]
def good (t : ByteArray) : Bool := (ans t).isSome
def list (t : ByteArray) : List GReply := (ans t).getD []
end Rl
end Go.Proofs.YtmclnkcpflehdaaDoor
