
/- The specification's walk through aliases: its memory. -/
import Derived.Test.YtfkjbamjppnohaaDoorExFollow
import Derived.Maps.AppendAt
namespace Go.Proofs.YtfkjbamjppnohaaDoor
open Go.RowKit Go.Lib Go.Maps
theorem eq_same (x y : ByteArray) : (x.toList == y.toList) = Ex.same x y := by
  rw [ByteArray.toList_eq, ByteArray.toList_eq]
  rfl
set_option maxHeartbeats 1000000 in
theorem specIn (o : Option Addr) (F : List ByteArray) (cap lo hi : Nat) (k : ByteArray) (w : World) (hF : TxL lo hi w o F) (hl : F.length ≤ 1048576) :
    Calls Tryd.prog 44 #[.slice o F.length cap, .string k] w fun e w' => e = .returned (.bool (Ex.isIn F k)) ∧ w = w' := by
  obtain ⟨R, hR⟩ : ∃ R, Ex.isIn F k = R := ⟨_, rfl⟩
  rw [hR]
  have HR : Hid (Ex.isIn (F.drop 0) k = R) := hR
  have HF := mkHid hF
  clear hF hR
  go_enter Tryd.func44, Tryd.ntmps44
  go_wp2
  go_loopw [5] (fun iv wr => ∃ i : Nat, i ≤ F.length ∧ iv = .int .i64 i ∧ Hid (Ex.isIn (F.drop i) k = R) ∧ wr = w) (fun iv _ => F.length - (Lib.intOf iv).toNat)
  case atStart => exact ⟨0, Nat.zero_le _, rfl, HR, rfl⟩
  case round =>
    clear HR
    obtain ⟨i, hi, rfl, hRi, rfl⟩ := hrel
    by_cases hlt : i < F.length
    · obtain ⟨a, rfl, ha1, ha2, c0⟩ := HF.out i hlt
      have hst : Hid ((Ex.same F[i] k || Ex.isIn (F.drop (i + 1)) k) = R) := show _ = _ from by rw [← hRi.out, List.drop_eq_getElem_cons hlt]; rfl
      clear hRi
      have heq := eq_same F[i] k
      generalize Ex.same F[i] k = b at *
      generalize F[i] = x at *
      cases b
      · have hR2 : Hid (Ex.isIn (F.drop (i + 1)) k = R) := show _ = _ from by rw [← hst.out, Bool.false_or]
        clear hst
        go_wp2
        go_roundw
        case rel => exact ⟨i + 1, by omega, by go_num, hR2, trivial⟩
        case measure => simp [Lib.intOf]; omega
      · have hR2 : R = true := by rw [← hst.out, Bool.true_or]
        subst hR2
        clear hst
        go_wp2
        go_ret
        exact ⟨rfl, rfl⟩
    · have hR2 : R = false := by rw [← hRi.out, List.drop_eq_nil_of_le (by omega)]; rfl
      subst hR2
      clear hRi
      go_wp2
      go_ret
      exact ⟨rfl, rfl⟩
theorem OwnX.cut {B : Nat} {o : Option Addr} {c n m : Nat} {P : List ByteArray} {k : ByteArray} {w : World} (h : OwnX B (.slice o n c) (P ++ [k]) w) (hm : m = P.length) : OwnX B (.slice o m c) P w := by
  subst hm
  obtain ⟨h1, h2⟩ := h
  refine ⟨by simp [strCellsX], ?_⟩
  rcases h2 with ⟨h2, h3⟩ | ⟨g, cap, cur, e, hB, hg, hn, hcm, hcs, ht⟩
  · simp at h3
  · rw [List.length_append] at hn ht
    simp only [Value.slice.injEq] at e
    obtain ⟨rfl, -, rfl⟩ := e
    refine .inr ⟨g, c, cur, rfl, hB, hg, by simp at hn; omega, hcm, hcs, ?_⟩
    have := congrArg (List.take (P.length * 1)) ht
    rw [List.take_take] at this
    simp only [Nat.mul_one, List.length_cons, List.length_nil] at this ⊢
    rw [Nat.min_eq_left (by omega)] at this
    rw [this]
    simp [strCellsX]
def Apart (u v : Value) : Prop := ∀ k, u.ownBlock = some k → v.ownBlock ≠ some k
theorem Apart.symm {u v : Value} (h : Apart u v) : Apart v u := fun k hv hu => h k hu hv
theorem Apart.keep {u v : Value} (h : Apart u v) : u.ownBlock = none ∨ u.ownBlock ≠ v.ownBlock := by
  cases hu : u.ownBlock with
  | none => exact .inl rfl
  | some k => exact .inr (fun e => h k hu e.symm)
/-- An append, and where its row lies. -/
theorem wp_appXat {w : World} {ops : Array Oper} {rest : List Oper} {o : Oper} {a : Act} {Q : Exit → Act → World → Prop} (hgd : o.guard = none) (s x : Operand)
    (ho : o.op = .call { callee := .builtin .append, args := #[s, x], argTypes := #[24, 24] })
    (B : Nat) (v : Value) (C : List ByteArray) (hs : a.eval s = v) (hown : OwnX B v C w) (u : ByteArray)
    (c : Nat) (hx : a.eval x = .slice (some ⟨w.heap.size, 0, none⟩) 1 c) (hlen : C.length ≤ 1000000) (hB : B ≤ w.heap.size)
    (h : ∀ v' w', OwnX B v' (C ++ [u]) w' → (w.alloc (.cells #[.string u] 9)).grownBy w' v.ownBlock → (v'.ownBlock = v.ownBlock ∨ v'.ownBlock = some (w.alloc (.cells #[.string u] 9)).heap.size) → wpList Tryd.prog ops Q rest (a.put o.dst v') w') : wpList Tryd.prog ops Q (o :: rest) a (w.alloc (.cells #[.string u] 9)) := by
  obtain ⟨i0, hi0, hz0, hz1, hz2⟩ := info_parts Tryd.info9X
  unfold OwnX at hown
  refine wpList_append_own_at _ hgd s x 24 ho B 9 i0 (.string ⟨#[]⟩) 1 16 Tryd.underlying24 hi0 hz0 hz1 hz2 rfl (by decide) v C.length (strCellsX C) hs (World.ownsRow.alloc hown _) ⟨w.heap.size, 0, none⟩ 1 c [.string u] hx
    rfl (cell_one_new w (.string u) 9) ?_ (by unfold maxLen; omega) (by omega) (by simp; omega) ?_
  · intro y hy
    simp at hy
    subst hy
    rfl
  · intro v' w' h1 h2 _ h4
    refine h v' w' ?_ h2 h4
    unfold OwnX strCellsX
    rw [List.map_append, List.length_append]
    exact h1
namespace Ex
theorem find_none (A : List GAlias) (k : ByteArray) (h : ∀ (j : Nat) (hj : j < A.length), same A[j].name k = false) : find A k = none := by
  unfold find
  rw [List.find?_eq_none]
  intro a ha
  obtain ⟨j, hj, rfl⟩ := List.mem_iff_getElem.1 ha
  rw [h j hj]
  simp
theorem find_some (A : List GAlias) (k : ByteArray) (a : Nat) (ha : a < A.length) (hs : same A[a].name k = true) (h : ∀ (j : Nat) (hj : j < A.length), j < a → same A[j].name k = false) : find A k = some A[a] := by
  unfold find
  rw [List.find?_eq_some_iff_getElem]
  exact ⟨hs, a, ha, rfl, fun j hj => by rw [h j (by omega) hj]; rfl⟩
end Ex
end Go.Proofs.YtfkjbamjppnohaaDoor
