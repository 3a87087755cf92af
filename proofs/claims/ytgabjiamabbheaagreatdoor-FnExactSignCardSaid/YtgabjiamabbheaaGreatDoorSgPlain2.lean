
/- What a head's sum is of, plainly: marks against a list that is cut; sizes. Laws of no program. -/

/- Sizes of what is read, of a body as it is signed, and of a signature's own field. Laws of no program. -/
import Derived.Test.YtgabjiamabbheaaGreatDoorPick
import Derived.Test.YtgabjiamabbheaaGreatDoorCanonFieldSpec
import Derived.Test.YtgabjiamabbheaaGreatDoorCanonBodySpec
import Derived.Test.YtgabjiamabbheaaGreatDoorReadSpec
namespace Go.Proofs.YtgabjiamabbheaaGreatDoor
open Go.RowKit Go.Lib
def nmF (m : ByteArray) (f : Fd) : Bool := namedB f.1 m
/-- What is taken, by marks. -/
def tkZ (h : Int) : List ByteArray → List (Fd × Bool) → List UInt8
  | [], _ => []
  | m :: ms, Z =>
    match lastTo (unAt (nmF m) Z) Z.length with
    | none => tkZ h ms Z
    | some k =>
      match Z[k]? with
      | none => tkZ h ms Z
      | some q => (canonF q.1.1 q.1.2 h).data.toList ++ tkZ h ms (Z.set k (q.1, true))
/-- What is taken, off a list. -/
def tkL (h : Int) : List ByteArray → List Fd → List UInt8
  | [], _ => []
  | m :: ms, L =>
    match lastTo (mtAt (nmF m) L) L.length with
    | none => tkL h ms L
    | some k =>
      match L[k]? with
      | none => tkL h ms L
      | some f => (canonF f.1 f.2 h).data.toList ++ tkL h ms (L.eraseIdx k)
set_option maxRecDepth 20000 in
theorem tkZ_none (h : Int) (m : ByteArray) (ms : List ByteArray) (Z : List (Fd × Bool)) (h1 : lastTo (unAt (nmF m) Z) Z.length = none) : tkZ h (m :: ms) Z = tkZ h ms Z := by
  rw [tkZ, h1]
set_option maxRecDepth 20000 in
theorem tkZ_some (h : Int) (m : ByteArray) (ms : List ByteArray) (Z : List (Fd × Bool)) (k : Nat) (q : Fd × Bool) (h1 : lastTo (unAt (nmF m) Z) Z.length = some k) (h2 : Z[k]? = some q) : tkZ h (m :: ms) Z = (canonF q.1.1 q.1.2 h).data.toList ++ tkZ h ms (Z.set k (q.1, true)) := by
  rw [tkZ, h1]
  simp only [h2]
set_option maxRecDepth 20000 in
theorem tkL_none (h : Int) (m : ByteArray) (ms : List ByteArray) (L : List Fd) (h1 : lastTo (mtAt (nmF m) L) L.length = none) : tkL h (m :: ms) L = tkL h ms L := by
  rw [tkL, h1]
set_option maxRecDepth 20000 in
theorem tkL_some (h : Int) (m : ByteArray) (ms : List ByteArray) (L : List Fd) (k : Nat) (f : Fd) (h1 : lastTo (mtAt (nmF m) L) L.length = some k) (h2 : L[k]? = some f) : tkL h (m :: ms) L = (canonF f.1 f.2 h).data.toList ++ tkL h ms (L.eraseIdx k) := by
  rw [tkL, h1]
  simp only [h2]
set_option maxRecDepth 20000 in
theorem tk_eq (h : Int) : ∀ (ms : List ByteArray) (Z : List (Fd × Bool)), tkZ h ms Z = tkL h ms (keep Z)
  | [], Z => rfl
  | m :: ms, Z => by
    rcases pick (nmF m) Z with ⟨h1, h2⟩ | ⟨k, f, k', h1, h2, h3, h4, h5⟩
    · rw [tkZ_none h m ms Z h1, tkL_none h m ms _ h2]
      exact tk_eq h ms Z
    · rw [tkZ_some h m ms Z k _ h1 h2, tkL_some h m ms _ k' f h3 h4, h5, ← tk_eq h ms]
set_option maxRecDepth 20000 in
theorem keep_new (L : List Fd) : keep (L.map fun f => (f, false)) = L := by
  unfold keep
  induction L with
  | nil => rfl
  | cons f r ih => simp at ih ⊢; exact ih
/-- Sizes. -/
def fsz (f : Fd) : Nat := f.1.size + f.2.size + 3
def fsum (L : List Fd) : Nat := (L.map fsz).sum
set_option maxRecDepth 20000 in
theorem canonF_size (n v : ByteArray) (x : Int) : (canonF n v x).size ≤ fsz (n, v) := by
  unfold canonF fsz
  have e1 : (lower n.data.toList).length = n.size := by rw [lower, List.length_map]; simp
  have e2 : (relaxV v).length ≤ v.size := by
    refine Nat.le_trans (Pl.trimB_len _) (Nat.le_trans (Pl.runs_len _) ?_)
    refine Nat.le_trans (Pl.unf_len _ _) ?_
    simp
  split
  · exact Nat.zero_le _
  · split
    · simp [ByteArray.size_append]; show _ + 1 + _ + 2 ≤ _; omega
    · split
      · simp only [ByteArray.size_append]
        have e3 : (⟨(lower n.data.toList).toArray⟩ : ByteArray).size = n.size := by show ((lower n.data.toList).toArray).size = _; rw [List.size_toArray]; exact e1
        have e4 : (⟨(relaxV v).toArray⟩ : ByteArray).size ≤ v.size := by show ((relaxV v).toArray).size ≤ _; rw [List.size_toArray]; exact e2
        rw [e3]
        show _ + 1 + _ + 2 ≤ n.size + v.size + 3
        omega
      · exact Nat.zero_le _
set_option maxRecDepth 20000 in
theorem sum_erase {α : Type} (g : α → Nat) : ∀ (L : List α) (k : Nat) (f : α), L[k]? = some f → (L.map g).sum = g f + ((L.eraseIdx k).map g).sum
  | [], k, f, h => by simp at h
  | a :: r, 0, f, h => by simp at h; subst h; simp
  | a :: r, k + 1, f, h => by
    have := sum_erase g r k f (by simpa using h)
    simp [this]
    omega
set_option maxRecDepth 20000 in
theorem tkL_len (h : Int) : ∀ (ms : List ByteArray) (L : List Fd), (tkL h ms L).length ≤ fsum L
  | [], L => Nat.zero_le _
  | m :: ms, L => by
    cases h1 : lastTo (mtAt (nmF m) L) L.length with
    | none => rw [tkL_none h m ms L h1]; exact tkL_len h ms L
    | some k =>
      cases h2 : L[k]? with
      | none => exact absurd (lastTo_lt _ _ h1) (by have := List.getElem?_eq_none_iff.1 h2; omega)
      | some f =>
        rw [tkL_some h m ms L k f h1 h2, List.length_append]
        have a := canonF_size f.1 f.2 h
        have b := tkL_len h ms (L.eraseIdx k)
        have c := sum_erase fsz L k f h2
        have e : (canonF f.1 f.2 h).data.toList.length = (canonF f.1 f.2 h).size := by simp
        unfold fsum at b ⊢
        rw [e, c]
        have : fsz (f.1, f.2) = fsz f := rfl
        omega
end Go.Proofs.YtgabjiamabbheaaGreatDoor
namespace Go.Proofs.YtgabjiamabbheaaGreatDoor
open Go.RowKit Go.Lib
def flsum (F : List Fl) : Nat := (F.map fun f => f.1.length + f.2.length + 3).sum
set_option maxRecDepth 20000 in
theorem flsum_app (F : List Fl) (f : Fl) : flsum (F ++ [f]) = flsum F + (f.1.length + f.2.length + 3) := by simp [flsum]
namespace Pl
set_option maxRecDepth 20000 in
theorem trimR_len (l : List UInt8) : (trimR l).length ≤ l.length := by
  obtain ⟨q, h, -⟩ := trimR_split l
  have := congrArg List.length h
  rw [List.length_append] at this
  omega
set_option maxRecDepth 20000 in
theorem field_size (l : List UInt8) (k x : Nat) (n v : List UInt8) (hk : k < l.length) (h : implF l k = .inr (n, v, x)) :
    k < x ∧ x ≤ l.length ∧ n.length + v.length + 3 ≤ (if x < l.length then x - k else l.length - k + 2) := by
  rw [← field_same l k hk] at h
  unfold specF at h
  have a0 := nx_lt l k hk
  have a1 := first_ge (fun j => b l j == 58) (fe l k) k (by have := first_ge (fun j => crlf l j && !fold l j) l.length k (by omega); exact this)
  have a2 := first_le (fun j => b l j == 58) (fe l k) k (by have := first_ge (fun j => crlf l j && !fold l j) l.length k (by omega); exact this)
  have a3 : fe l k ≤ l.length := first_le (fun j => crlf l j && !fold l j) l.length k (by omega)
  have a4 := le_fe l k (by omega)
  change k ≤ colon l (fe l k) k at a1
  change colon l (fe l k) k ≤ fe l k at a2
  simp only at h
  split at h
  · cases h
  · rename_i hc
    split at h
    · simp only [Sum.inr.injEq, Prod.mk.injEq] at h
      obtain ⟨rfl, rfl, rfl⟩ := h
      have hlt : colon l (fe l k) k < le l k := by
        simp only [Bool.or_eq_true, decide_eq_true_eq, not_or] at hc
        omega
      refine ⟨a0.1, a0.2, ?_⟩
      have b1 := trimR_len (sl l k (colon l (fe l k) k))
      rw [sl_len l k _ (by omega)] at b1
      rw [sl_len l _ _ a3]
      unfold nx
      split <;> split <;> omega
    · cases h
set_option maxRecDepth 20000 in
theorem rd_sum (l : List UInt8) : ∀ (f k : Nat) (fs : List Fl), k ≤ l.length → flsum (rd l f k fs).fields ≤ flsum fs + (if k < l.length then l.length - k + 2 else 0)
  | 0, k, fs, _ => Nat.zero_le _
  | f + 1, k, fs, hk => by
    rw [rd]
    split
    · simp only; omega
    · rename_i h1
      split
      · simp only; omega
      · split
        · exact Nat.zero_le _
        · rename_i n v x hf
          split
          · exact Nat.zero_le _
          · obtain ⟨c1, c2, c3⟩ := field_size l k x n v (by omega) hf
            have ih := rd_sum l f x (fs ++ [(n, v)]) c2
            rw [flsum_app] at ih
            simp only at ih
            rw [if_pos (show k < l.length by omega)]
            split at c3 <;> split at ih <;> omega
set_option maxRecDepth 20000 in
theorem read_sum (l : List UInt8) : flsum (readHead l).fields ≤ l.length + 2 := by
  have := rd_sum l (l.length + 1) 0 [] (Nat.zero_le _)
  unfold readHead
  have e : flsum [] = 0 := rfl
  rw [e] at this
  split at this <;> omega
set_option maxRecDepth 20000 in
/-- How many fields are read. -/
theorem rd_count (l : List UInt8) : ∀ (f k : Nat) (fs : List Fl), fs.length ≤ 200 → (rd l f k fs).fields.length ≤ 200
  | 0, k, fs, _ => Nat.zero_le _
  | f + 1, k, fs, hf => by
    rw [rd]
    split
    · exact hf
    · split
      · exact hf
      · split
        · exact Nat.zero_le _
        · split
          · exact Nat.zero_le _
          · exact rd_count l f _ _ (by rw [List.length_append, List.length_singleton]; omega)
set_option maxRecDepth 20000 in
theorem read_count (l : List UInt8) : (readHead l).fields.length ≤ 200 := rd_count l _ _ _ (Nat.zero_le _)
set_option maxRecDepth 20000 in
theorem rd_body (l : List UInt8) : ∀ (f k : Nat) (fs : List Fl), k ≤ l.length → (rd l f k fs).body ≤ l.length
  | 0, k, fs, _ => Nat.zero_le _
  | f + 1, k, fs, hk => by
    rw [rd]
    split
    · exact Nat.le_refl _
    · split
      · rename_i h2
        have := (crlf_b l k h2).2.2
        show k + 2 ≤ l.length
        omega
      · split
        · exact Nat.zero_le _
        · rename_i n v x hf
          split
          · exact Nat.zero_le _
          · obtain ⟨c1, c2, c3⟩ := field_size l k x n v (by omega) hf
            exact rd_body l f _ _ c2
set_option maxRecDepth 20000 in
theorem read_body (l : List UInt8) : (readHead l).body ≤ l.length := rd_body l _ _ _ (Nat.zero_le _)
set_option maxRecDepth 20000 in
/-- A body as it is signed. -/
theorem ends_len (ls : List (List UInt8)) : (ends ls).length = (ls.map fun x => x.length + 2).sum := by
  induction ls with
  | nil => rfl
  | cons a r ih => simp [ends] at ih ⊢; omega
set_option maxRecDepth 20000 in
theorem lines_sum : ∀ (n : Nat) (l : List UInt8), l.length ≤ n → ((lines l).map fun x => x.length + 2).sum ≤ l.length + 2
  | 0, l, h => by
    obtain rfl : l = [] := List.length_eq_zero_iff.1 (by omega)
    simp [lines_nil]
  | n + 1, l, h => by
    by_cases hl : l = []
    · subst hl; simp [lines_nil]
    · rw [lines_step l hl]
      have hr := cut_rest l hl
      have ih := lines_sum n (cut l crs).2.1 (by omega)
      rw [List.map_cons, List.sum_cons]
      by_cases hc : ∃ i, NoCr l i ∧ crlf l i = true
      · obtain ⟨i, h1, h2⟩ := hc
        rw [cut_hit l i h1 h2] at ih ⊢
        have := (crlf_b l i h2).2.2
        simp only [List.length_take, List.length_drop] at ih ⊢
        omega
      · have hn : NoCr l l.length := by
          intro j hj
          induction j using Nat.strongRecOn with
          | _ j ihj =>
            cases hx : crlf l j with
            | false => rfl
            | true => exact absurd ⟨j, fun m hm => ihj m hm (by omega), hx⟩ hc
        rw [cut_miss l hn] at ih ⊢
        simp only [lines_nil, List.map_nil, List.sum_nil]
        omega
set_option maxRecDepth 20000 in
theorem dt_sum (ls : List (List UInt8)) : ((dt ls).map fun x => x.length + 2).sum ≤ (ls.map fun x => x.length + 2).sum := by
  unfold dt
  rw [← List.sum_reverse, ← List.map_reverse, List.reverse_reverse, ← List.sum_reverse (ls.map _), ← List.map_reverse]
  generalize ls.reverse = r
  induction r with
  | nil => exact Nat.le_refl _
  | cons a r ih =>
    rw [List.dropWhile_cons]
    split
    · rw [List.map_cons, List.sum_cons]; omega
    · exact Nat.le_refl _
set_option maxRecDepth 20000 in
theorem runs_sum (ls : List (List UInt8)) : ((ls.map runs).map fun x => x.length + 2).sum ≤ (ls.map fun x => x.length + 2).sum := by
  induction ls with
  | nil => exact Nat.le_refl _
  | cons a r ih =>
    have := runs_len a
    simp only [List.map_cons, List.sum_cons] at ih ⊢
    omega
end Pl
set_option maxRecDepth 20000 in
theorem canonB_len (s : ByteArray) (x : Int) : (canonB s x).length ≤ s.size + 2 := by
  have e : s.data.toList.length = s.size := by simp
  have h0 := Pl.lines_sum _ s.data.toList (Nat.le_refl _)
  rw [e] at h0
  unfold canonB
  split
  · show 2 ≤ _; omega
  · rw [Pl.ends_len]
    unfold bodyL
    refine Nat.le_trans (Pl.dt_sum _) ?_
    split
    · exact Nat.le_trans (Pl.runs_sum _) h0
    · exact h0
end Go.Proofs.YtgabjiamabbheaaGreatDoor
