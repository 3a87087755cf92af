
/- Texts put together: appends of several texts, and what is written of a list. (By tools/gen/implclient.py.) -/
import Derived.Test.YthgjflgidalmlaaDoorClientPlain2
import Derived.Test.YthgjflgidalmlaaDoorOwnX
namespace Go.Proofs.YthgjflgidalmlaaDoor
open Go.RowKit Go.Lib Go.Maps
namespace Ct
def sz (xs : List ByteArray) : Nat := (xs.map (·.size)).sum
set_option maxRecDepth 20000 in
theorem cat_sz (xs : List ByteArray) : (cat xs).size = sz xs := by
  show ((xs.map (·.data.toList)).flatten).toArray.size = _
  rw [List.size_toArray]
  induction xs with
  | nil => rfl
  | cons x xs ih =>
    simp only [List.map_cons, List.flatten_cons, List.length_append, sz, List.sum_cons] at ih ⊢
    rw [ih]
    simp
set_option maxRecDepth 20000 in
theorem sz_next (xs : List ByteArray) (k : Nat) (h : k < xs.length) : sz (xs.take (k + 1)) = sz (xs.take k) + xs[k].size := by
  rw [List.take_succ_eq_append_getElem h, sz, sz, List.map_append, List.sum_append]
  simp
set_option maxRecDepth 20000 in
theorem sz_most (xs : List ByteArray) (m : Nat) (h : ∀ x ∈ xs, x.size ≤ m) : sz xs ≤ xs.length * m := by
  induction xs with
  | nil => simp [sz]
  | cons x r ih =>
    have h1 := h x List.mem_cons_self
    have h2 := ih fun y hy => h y (List.mem_cons_of_mem _ hy)
    simp only [sz, List.map_cons, List.sum_cons, List.length_cons, Nat.add_mul, Nat.one_mul] at h2 ⊢
    omega
set_option maxRecDepth 20000 in
theorem join_flat (xs : List ByteArray) : Lib.join (xs.map (·.data.toList)) [] = (xs.map (·.data.toList)).flatten := by
  unfold Lib.join
  induction xs with
  | nil => rfl
  | cons x xs ih =>
    cases xs with
    | nil => simp [List.intercalate]
    | cons y ys =>
      simp only [List.intercalate, List.map_cons, List.intersperse, List.flatten_cons] at ih ⊢
      rw [ih]
      simp
def wr (xs : List ByteArray) : ByteArray := (few (cat xs)).getD ⟨#[]⟩
set_option maxRecDepth 20000 in
theorem wr_yes (xs : List ByteArray) (h : sz xs ≤ 100000) : wr xs = cat xs := by
  rw [wr, fewY (by rw [cat_sz]; exact h)]; rfl
set_option maxRecDepth 20000 in
theorem wr_no (xs : List ByteArray) (h : ¬ sz xs ≤ 100000) : wr xs = ⟨#[]⟩ := by
  rw [wr, fewN (by rw [cat_sz]; exact h)]; rfl
end Ct
set_option maxRecDepth 20000 in
theorem cell_ofC {xs : List ByteArray} {bk o : Nat} {w : World} (h : ∀ (j : Nat) x, xs[j]? = some x → w.cell? ⟨bk, o + j, none⟩ = some (.string x)) (k : Nat) (hk : k < xs.length) : w.cell? ⟨bk, o + k, none⟩ = some (.string xs[k]) := h k _ (List.getElem?_eq_getElem hk)
set_option maxRecDepth 20000 in
set_option maxHeartbeats 1000000 in
theorem implWritten (xs : List ByteArray) (bk c : Nat) (w : World) (hcells : ∀ (j : Nat) x, xs[j]? = some x → w.cell? ⟨bk, 0 + j, none⟩ = some (.string x)) (hbk : bk < w.heap.size) (hn : xs.length ≤ 100000) (hc : xs.length ≤ c) (hsz : ∀ x ∈ xs, x.size ≤ 1100000) :
    Calls Tryd.prog 20 #[.slice (some ⟨bk, 0, none⟩) xs.length c] w fun e w' => e = .returned (.string (Ct.wr xs)) ∧ Below w.heap.size w w' := by
  have hl : (xs.map (·.data.toList)).flatten.length = Ct.sz xs := by
    have := Ct.cat_sz xs
    rwa [Ct.cat, show (⟨((xs.map (·.data.toList)).flatten).toArray⟩ : ByteArray).size = ((xs.map (·.data.toList)).flatten).toArray.size from rfl, List.size_toArray] at this
  have hmost : ∀ k, Ct.sz (xs.take k) ≤ 110000000000 := fun k => by
    have h1 := Ct.sz_most (xs.take k) 1100000 fun x hx => hsz x (List.mem_of_mem_take hx)
    have h2 : (xs.take k).length ≤ 100000 := by rw [List.length_take]; omega
    have h3 := Nat.mul_le_mul_right 1100000 h2
    omega
  have hall : Ct.sz xs ≤ 110000000000 := by have := hmost xs.length; rwa [List.take_length] at this
  have hJ := Tryd.strings_Join bk 0 c xs ⟨#[]⟩ w hcells hbk (by omega) hc (by
    show (Lib.join (xs.map (·.data.toList)) []).length ≤ _
    rw [Ct.join_flat, hl]
    omega)
  have HJ : Hid (Calls Tryd.prog 40 #[.slice (some ⟨bk, 0, none⟩) xs.length c, .string ⟨#[]⟩] w fun e w' => e = .returned (.string (Ct.cat xs)) ∧ Below w.heap.size w w') := by
    refine hJ.mono ?_
    rintro e w' ⟨rfl, hb⟩
    refine ⟨?_, hb⟩
    show _ = Ending.returned (.string (Ct.cat xs))
    rw [Ct.cat, ← Ct.join_flat]
  have HC : Hid (∀ (j : Nat) x, xs[j]? = some x → w.cell? ⟨bk, 0 + j, none⟩ = some (.string x)) := hcells
  have Hmost := mkHid hmost
  obtain ⟨R, hR⟩ : ∃ R, Ct.wr xs = R := ⟨_, rfl⟩
  have HR := mkHid hR
  rw [hR]
  clear hJ hl hcells hsz hmost hR
  go_enter Tryd.func20, Tryd.ntmps20
  go_wp2
  go_loopw [3, 8] (fun s i wr => ∃ k : Nat, k ≤ xs.length ∧ s = .int .i64 (Ct.sz (xs.take k)) ∧ i = .int .i64 k ∧ wr = w) (fun _ i _ => xs.length - (Lib.intOf i).toNat)
  case atStart => exact ⟨0, Nat.zero_le _, rfl, rfl, rfl⟩
  case round =>
    obtain ⟨k, hk, rfl, rfl, rfl⟩ := hrel
    by_cases hlt : k < xs.length
    · have hcl := cell_ofC HC.out k hlt
      rw [Nat.zero_add] at hcl
      have hnx := Ct.sz_next xs k hlt
      have hle := Hmost.out (k + 1)
      have HN : Hid (Ct.sz (xs.take (k + 1)) = Ct.sz (xs.take k) + xs[k].size) := hnx
      have hle2 : Ct.sz (xs.take k) + xs[k].size ≤ 110000000000 := by omega
      clear hnx hle
      generalize xs[k] = x at *
      generalize Ct.sz (xs.take k) = z at *
      go_wp2
      go_roundw
      case rel => exact ⟨k + 1, by omega, by rw [HN.out]; go_num, by go_num, trivial⟩
      case measure => simp [Lib.intOf]; omega
    · obtain rfl : k = xs.length := by omega
      rw [List.take_length]
      by_cases hq : Ct.sz xs ≤ 100000
      · have hr : Hid (R = Ct.cat xs) := show _ = _ from by rw [← HR.out, Ct.wr_yes xs hq]
        have hq2 : decide ((100000 : Int) < (Ct.sz xs : Int)) = false := by simp; omega
        generalize Ct.sz xs = z at *
        go_wp2_with fail
        refine HJ.out.mono ?_
        rintro e w2 ⟨rfl, hb⟩
        go_wp2
        go_ret
        rw [hr.out]
        exact ⟨rfl, hb⟩
      · have hr : Hid (R = ⟨#[]⟩) := show _ = _ from by rw [← HR.out, Ct.wr_no xs hq]
        have hq2 : decide ((100000 : Int) < (Ct.sz xs : Int)) = true := by simp; omega
        generalize Ct.sz xs = z at *
        go_wp2
        go_ret
        rw [hr.out]
        exact ⟨rfl, Below.refl _ _⟩
set_option maxRecDepth 20000 in
theorem wp_appX4 {w : World} {ops : Array Oper} {rest : List Oper} {o : Oper} {a : Act} {Q : Exit → Act → World → Prop} (hgd : o.guard = none) (s x : Operand)
    (ho : o.op = .call { callee := .builtin .append, args := #[s, x], argTypes := #[30, 30] })
    (B : Nat) (v : Value) (C : List ByteArray) (hs : a.eval s = v) (hown : OwnX B v C w) (u0 u1 u2 u3 : ByteArray)
    (c : Nat) (hx : a.eval x = .slice (some ⟨w.heap.size, 0, none⟩) 4 c) (hlen : C.length ≤ 1000000) (hB : B ≤ w.heap.size)
    (h : ∀ v' w', OwnX B v' (C ++ [u0, u1, u2, u3]) w' → (w.alloc (.cells #[.string u0, .string u1, .string u2, .string u3] 9)).grownBy w' v.ownBlock → wpList Tryd.prog ops Q rest (a.put o.dst v') w') : wpList Tryd.prog ops Q (o :: rest) a (w.alloc (.cells #[.string u0, .string u1, .string u2, .string u3] 9)) := by
  obtain ⟨i0, hi0, hz0, hz1, hz2⟩ := info_parts Tryd.info9X
  unfold OwnX at hown
  refine wpList_append_own _ hgd s x 30 ho B 9 i0 (.string ⟨#[]⟩) 1 16 Tryd.underlying30 hi0 hz0 hz1 hz2 rfl (by decide) v C.length (strCellsX C) hs (World.ownsRow.alloc hown _) ⟨w.heap.size, 0, none⟩ 4 c [.string u0, .string u1, .string u2, .string u3] hx
    rfl ?_ ?_ (by unfold maxLen; omega) (by omega) (by simp; omega) ?_
  · intro j y hj
    rw [add_off]
    match j, hj with
    | 0, hj => simp at hj; subst hj; simp
    | 1, hj => simp at hj; subst hj; simp
    | 2, hj => simp at hj; subst hj; simp
    | 3, hj => simp at hj; subst hj; simp
  · intro y hy
    simp at hy
    rcases hy with rfl | rfl | rfl | rfl <;> rfl
  · intro v' w' h1 h2 _
    refine h v' w' ?_ h2
    unfold OwnX strCellsX
    rw [List.map_append, List.length_append]
    exact h1
set_option maxRecDepth 20000 in
theorem wp_appX3 {w : World} {ops : Array Oper} {rest : List Oper} {o : Oper} {a : Act} {Q : Exit → Act → World → Prop} (hgd : o.guard = none) (s x : Operand)
    (ho : o.op = .call { callee := .builtin .append, args := #[s, x], argTypes := #[30, 30] })
    (B : Nat) (v : Value) (C : List ByteArray) (hs : a.eval s = v) (hown : OwnX B v C w) (u0 u1 u2 : ByteArray)
    (c : Nat) (hx : a.eval x = .slice (some ⟨w.heap.size, 0, none⟩) 3 c) (hlen : C.length ≤ 1000000) (hB : B ≤ w.heap.size)
    (h : ∀ v' w', OwnX B v' (C ++ [u0, u1, u2]) w' → (w.alloc (.cells #[.string u0, .string u1, .string u2] 9)).grownBy w' v.ownBlock → wpList Tryd.prog ops Q rest (a.put o.dst v') w') : wpList Tryd.prog ops Q (o :: rest) a (w.alloc (.cells #[.string u0, .string u1, .string u2] 9)) := by
  obtain ⟨i0, hi0, hz0, hz1, hz2⟩ := info_parts Tryd.info9X
  unfold OwnX at hown
  refine wpList_append_own _ hgd s x 30 ho B 9 i0 (.string ⟨#[]⟩) 1 16 Tryd.underlying30 hi0 hz0 hz1 hz2 rfl (by decide) v C.length (strCellsX C) hs (World.ownsRow.alloc hown _) ⟨w.heap.size, 0, none⟩ 3 c [.string u0, .string u1, .string u2] hx
    rfl ?_ ?_ (by unfold maxLen; omega) (by omega) (by simp; omega) ?_
  · intro j y hj
    rw [add_off]
    match j, hj with
    | 0, hj => simp at hj; subst hj; simp
    | 1, hj => simp at hj; subst hj; simp
    | 2, hj => simp at hj; subst hj; simp
  · intro y hy
    simp at hy
    rcases hy with rfl | rfl | rfl <;> rfl
  · intro v' w' h1 h2 _
    refine h v' w' ?_ h2
    unfold OwnX strCellsX
    rw [List.map_append, List.length_append]
    exact h1
set_option maxRecDepth 20000 in
theorem wp_appX2 {w : World} {ops : Array Oper} {rest : List Oper} {o : Oper} {a : Act} {Q : Exit → Act → World → Prop} (hgd : o.guard = none) (s x : Operand)
    (ho : o.op = .call { callee := .builtin .append, args := #[s, x], argTypes := #[30, 30] })
    (B : Nat) (v : Value) (C : List ByteArray) (hs : a.eval s = v) (hown : OwnX B v C w) (u0 u1 : ByteArray)
    (c : Nat) (hx : a.eval x = .slice (some ⟨w.heap.size, 0, none⟩) 2 c) (hlen : C.length ≤ 1000000) (hB : B ≤ w.heap.size)
    (h : ∀ v' w', OwnX B v' (C ++ [u0, u1]) w' → (w.alloc (.cells #[.string u0, .string u1] 9)).grownBy w' v.ownBlock → wpList Tryd.prog ops Q rest (a.put o.dst v') w') : wpList Tryd.prog ops Q (o :: rest) a (w.alloc (.cells #[.string u0, .string u1] 9)) := by
  obtain ⟨i0, hi0, hz0, hz1, hz2⟩ := info_parts Tryd.info9X
  unfold OwnX at hown
  refine wpList_append_own _ hgd s x 30 ho B 9 i0 (.string ⟨#[]⟩) 1 16 Tryd.underlying30 hi0 hz0 hz1 hz2 rfl (by decide) v C.length (strCellsX C) hs (World.ownsRow.alloc hown _) ⟨w.heap.size, 0, none⟩ 2 c [.string u0, .string u1] hx
    rfl ?_ ?_ (by unfold maxLen; omega) (by omega) (by simp; omega) ?_
  · intro j y hj
    rw [add_off]
    match j, hj with
    | 0, hj => simp at hj; subst hj; simp
    | 1, hj => simp at hj; subst hj; simp
  · intro y hy
    simp at hy
    rcases hy with rfl | rfl <;> rfl
  · intro v' w' h1 h2 _
    refine h v' w' ?_ h2
    unfold OwnX strCellsX
    rw [List.map_append, List.length_append]
    exact h1
set_option maxRecDepth 20000 in
theorem OwnX.made3 (B : Nat) (w : World) (hB : B ≤ w.heap.size) (a b c : ByteArray) : OwnX B (.slice (some ⟨w.heap.size, 0, none⟩) 3 3) [a, b, c] (w.alloc (.cells #[.string a, .string b, .string c] 9)) :=
  ⟨rfl, .inr ⟨w.heap.size, 3, _, rfl, hB, heap_alloc_at _ _, Nat.le_refl _, by unfold maxLen; omega, rfl, rfl⟩⟩
end Go.Proofs.YthgjflgidalmlaaDoor
