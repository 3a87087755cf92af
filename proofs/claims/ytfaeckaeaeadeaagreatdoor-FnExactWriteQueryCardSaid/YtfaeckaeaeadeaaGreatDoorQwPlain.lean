
/- A query's text: plain. -/
import Derived.Test.YtfaeckaeaeadeaaGreatDoorSpecQSpan
import Derived.Test.YtfaeckaeaeadeaaGreatDoorTreeMore
import Derived.Test.YtfaeckaeaeadeaaGreatDoorSpecRanges
import Derived.Lib.Join
namespace Go.Proofs.YtfaeckaeaeadeaaGreatDoor
open Go.RowKit Go.Lib Go.Maps
namespace Qw
/-- The words that nodes begin with: word, kind, name. -/
def tb : List (List UInt8 × Int × List UInt8) := [
  ([65, 76, 76], 1, []),
  ([83, 69, 69, 78], 2, [92, 83, 101, 101, 110]),
  ([85, 78, 83, 69, 69, 78], 3, [92, 83, 101, 101, 110]),
  ([70, 76, 65, 71, 71, 69, 68], 2, [92, 70, 108, 97, 103, 103, 101, 100]),
  ([85, 78, 70, 76, 65, 71, 71, 69, 68], 3, [92, 70, 108, 97, 103, 103, 101, 100]),
  ([68, 69, 76, 69, 84, 69, 68], 2, [92, 68, 101, 108, 101, 116, 101, 100]),
  ([85, 78, 68, 69, 76, 69, 84, 69, 68], 3, [92, 68, 101, 108, 101, 116, 101, 100]),
  ([65, 78, 83, 87, 69, 82, 69, 68], 2, [92, 65, 110, 115, 119, 101, 114, 101, 100]),
  ([85, 78, 65, 78, 83, 87, 69, 82, 69, 68], 3, [92, 65, 110, 115, 119, 101, 114, 101, 100]),
  ([75, 69, 89, 87, 79, 82, 68], 2, []),
  ([85, 78, 75, 69, 89, 87, 79, 82, 68], 3, []),
  ([70, 82, 79, 77], 4, [70, 114, 111, 109]),
  ([84, 79], 4, [84, 111]),
  ([67, 67], 4, [67, 99]),
  ([83, 85, 66, 74, 69, 67, 84], 4, [83, 117, 98, 106, 101, 99, 116]),
  ([72, 69, 65, 68, 69, 82], 4, []),
  ([66, 79, 68, 89], 5, []),
  ([84, 69, 88, 84], 6, []),
  ([83, 73, 78, 67, 69], 7, []),
  ([66, 69, 70, 79, 82, 69], 8, []),
  ([79, 78], 9, []),
  ([76, 65, 82, 71, 69, 82], 10, []),
  ([83, 77, 65, 76, 76, 69, 82], 11, []),
  ([77, 79, 68, 83, 69, 81], 13, []),
  ([85, 73, 68], 12, []),
  ([78, 79, 84], 14, []),
  ([79, 82], 15, [])]
def look (k : Int) (nm : List UInt8) : List UInt8 := ((tb.find? fun r => (r.2.1 == k) && (r.2.2 == nm)).map (·.1)).getD []
def keys (k : Int) (nm : List UInt8) : List (List UInt8) := if (look k nm).isEmpty then [look k [], nm] else [look k nm]
def quote (t : ByteArray) : List UInt8 := 34 :: Pl.qs t.data.toList ++ [34]
/-- What stands behind a key; dy: a day's text. -/
def extra (dy : Int → List UInt8) (n : GQueryNode) : List (List UInt8) :=
  if n.kind = 4 ∨ n.kind = 5 ∨ n.kind = 6 then [quote n.text]
  else if n.kind = 7 ∨ n.kind = 8 ∨ n.kind = 9 then [dy n.num]
  else if n.kind = 10 ∨ n.kind = 11 ∨ n.kind = 13 then [decDigits n.num.toNat]
  else if n.kind = 12 then [if Rg.rsOk n.uids then Rg.wr n.uids else []]
  else []
def words (dy : Int → List UInt8) (n : GQueryNode) (ks : List (List UInt8)) : List (List UInt8) := if n.kind = 16 then ks else keys n.kind n.name.data.toList ++ (extra dy n ++ ks)
def txt (dy : Int → List UInt8) (n : GQueryNode) (ks : List (List UInt8)) : List UInt8 := join (words dy n ks) [32]
def par (n : GQueryNode) (t : List UInt8) : List UInt8 := if n.kind = 16 then 40 :: t ++ [41] else t
/-- The texts, node by node. -/
def W (dy : Int → List UInt8) (F : List GQueryNode) : Nat → Nat → List UInt8
  | 0, _ => []
  | m + 1, i => if i = m then (match F[m]? with | some n => par n (txt dy n (n.kids.map fun k => W dy F m k.toNat)) | none => []) else W dy F m i
def top (dy : Int → List UInt8) (F : List GQueryNode) : List UInt8 := match F[F.length - 1]? with | some n => txt dy n (n.kids.map fun k => W dy F (F.length - 1) k.toNat) | none => []
def out (dy : Int → List UInt8) (F : List GQueryNode) : List UInt8 := if Qu.good F then (if (top dy F).length ≤ 2000 then top dy F else []) else []
variable {dy : Int → List UInt8} {F : List GQueryNode}
theorem W_up (i : Nat) : ∀ n, i < n → W dy F n i = W dy F (i + 1) i
  | 0, h => by omega
  | n + 1, h => by
    by_cases hi : i = n
    · rw [hi]
    · rw [← W_up i n (by omega)]
      conv => lhs; unfold W
      rw [if_neg hi]
theorem W_mid (i m n : Nat) (h1 : i < m) (h2 : i < n) : W dy F m i = W dy F n i := by rw [W_up i m h1, W_up i n h2]
theorem W_at (m : Nat) (h : m < F.length) : W dy F (m + 1) m = par F[m] (txt dy F[m] (F[m].kids.map fun k => W dy F m k.toNat)) := by
  conv => lhs; unfold W
  rw [if_pos rfl, List.getElem?_eq_getElem h]
/-- At node i all texts of kids may be taken out of one list. -/
theorem W_kids (N i : Nat) (hN : i ≤ N) (ks : List Int) (h : ∀ k ∈ ks, 0 ≤ k ∧ k < (i : Int)) : (ks.map fun k => W dy F i k.toNat) = ks.map fun k => W dy F N k.toNat := by
  apply List.map_congr_left
  intro k hk
  have := h k hk
  exact W_mid _ _ _ (by omega) (by omega)
theorem W_in (N i : Nat) (hi : i < N) (h : i < F.length) (hk : ∀ k ∈ F[i].kids, 0 ≤ k ∧ k < (i : Int)) : W dy F N i = par F[i] (txt dy F[i] (F[i].kids.map fun k => W dy F N k.toNat)) := by
  rw [W_mid i N (i + 1) hi (by omega), W_at i h, W_kids N i (by omega) _ hk]
/-- How long texts are together, a blank behind each. -/
def sum (g : Int → Nat) : List Int → Nat
  | [] => 0
  | k :: r => g k + sum g r
theorem sum_append (g : Int → Nat) : ∀ a b, sum g (a ++ b) = sum g a + sum g b
  | [], b => by simp [sum]
  | k :: r, b => by simp only [List.cons_append, sum, sum_append g r b]; omega
def one (l : List (List UInt8)) : Nat := lens l + l.length
theorem one_append (a b : List (List UInt8)) : one (a ++ b) = one a + one b := by
  unfold one lens
  rw [List.map_append, List.sum_append, List.length_append]
  omega
theorem join_len (l : List (List UInt8)) : (join l [32]).length ≤ one l := by
  cases l with
  | nil => exact Nat.zero_le _
  | cons x r =>
    rw [join_cons, List.length_append, joinTail_length]
    unfold one lens
    simp only [List.map_cons, List.sum_cons, List.length_cons, List.length_nil]
    omega
theorem one_map (g : Int → List UInt8) : ∀ ks : List Int, one (ks.map g) = sum (fun k => (g k).length + 1) ks
  | [] => rfl
  | k :: r => by
    have := one_map g r
    unfold one lens at this ⊢
    simp only [List.map_cons, List.sum_cons, List.length_cons, sum] at this ⊢
    omega
theorem look_len (k : Int) (nm : List UInt8) : (look k nm).length ≤ 11 := by
  unfold look
  cases h : tb.find? fun r => (r.2.1 == k) && (r.2.2 == nm) with
  | none => exact Nat.zero_le _
  | some r =>
    have hm := List.mem_of_find?_eq_some h
    have : ∀ r ∈ tb, r.1.length ≤ 11 := by decide
    exact this r hm
theorem keys_one (k : Int) (nm : List UInt8) (h : nm.length ≤ 70) : one (keys k nm) ≤ 83 := by
  unfold keys one lens
  have h1 := look_len k nm
  have h2 := look_len k []
  split <;> simp <;> omega
theorem qs_le : ∀ l : List UInt8, (Pl.qs l).length ≤ 2 * l.length
  | [] => by simp [Pl.qs]
  | c :: r => by
    have := qs_le r
    unfold Pl.qs
    split <;> simp <;> omega
theorem more_le (F : List GRange) (h : ∀ r ∈ F, Rg.rOk r = true) : (Rg.more F).length ≤ F.length * 22 := by
  induction F with
  | nil => simp [Rg.more]
  | cons r t ih =>
    have a := Rg.one_small r (h r (by simp))
    have b := ih (fun x hx => h x (by simp [hx]))
    rw [Rg.more, List.length_cons, List.length_append, List.length_cons]
    omega
theorem wr_le (F : List GRange) (h : Rg.rsOk F = true) : (Rg.wr F).length ≤ 2200 := by
  simp only [Rg.rsOk, Bool.and_eq_true, decide_eq_true_eq, List.all_eq_true] at h
  obtain ⟨-, h2, h3⟩ := h
  cases F with
  | nil => simp [Rg.wr]
  | cons r t =>
    have a := Rg.one_small r (h3 r (by simp))
    have b := more_le t (fun x hx => h3 x (by simp [hx]))
    rw [List.length_cons] at h2
    rw [Rg.wr, List.length_append]
    omega
end Qw
end Go.Proofs.YtfaeckaeaeadeaaGreatDoor
