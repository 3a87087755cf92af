
/- Lists of numbers of 64 bits that the call itself makes; the kinds of nodes. -/
import Derived.Test.YtonnmbkfjiddnaaNodeEqual
import Derived.Laws.OwnMore
namespace Go.Proofs.Ytonnmbkfjiddnaa
open Go.RowKit Go.Lib Go.Maps
def numCells (P : List Int) : List Value := P.map (.int .i64)
/-- The slice v, whose array is among the blocks from B on, holds just the numbers P. -/
def OwnN (B : Nat) (v : Value) (P : List Int) (w : World) : Prop := w.ownsRow B 2 1 v P.length (numCells P)
theorem OwnN.made (B : Nat) (w : World) (h : B ≤ w.heap.size) : OwnN B (.slice (some ⟨w.heap.size, 0, none⟩) 0 0) [] (w.alloc (.cells #[] 2)) :=
  World.ownsRow_made w #[] 0 h (by unfold maxLen; omega) rfl
theorem OwnN.form {B : Nat} {v : Value} {P : List Int} {w : World} (h : OwnN B v P w) : ∃ o cap, v = .slice o P.length cap ∧ (∀ (j : Nat) (hj : j < P.length), ∃ g, o = some ⟨g, 0, none⟩ ∧ B ≤ g ∧ g < w.heap.size ∧ w.cell? ⟨g, j, none⟩ = some (.int .i64 P[j])) := by
  have hl := World.ownsRow.lt h
  have hh := h
  rcases h.2 with ⟨rfl, h0⟩ | ⟨g, cap, cur, rfl, hB, -, hc, -⟩
  · refine ⟨none, 0, by rw [h0], fun j hj => by omega⟩
  · refine ⟨_, cap, rfl, fun j hj => ⟨g, rfl, hB, (hl g rfl).2, ?_⟩⟩
    have := World.ownsRow.cells hh (g := g) rfl j (.int .i64 P[j]) (by simp [numCells, hj])
    rwa [add_off] at this
theorem OwnN.keep {B C : Nat} {v : Value} {P : List Int} {w w' : World} (h : OwnN B v P w) (hC : w.heap.size ≤ C) (hb : Below C w w') : OwnN B v P w' := by
  refine ⟨h.1, ?_⟩
  rcases h.2 with h | ⟨g, cap, cur, h1, h2, h3, h4⟩
  · exact .inl h
  · refine .inr ⟨g, cap, cur, h1, h2, ?_, h4⟩
    have hg : g < w.heap.size := by
      by_cases hg : g < w.heap.size
      · exact hg
      · rw [Array.getElem?_eq_none (by omega)] at h3; cases h3
    rw [hb.block g (by omega), h3]
/-- An append of one number. -/
theorem wp_appN {P : Program} {W w : World} {ops : Array Oper} {rest : List Oper} {o : Oper} {a : Act} {Q : Exit → Act → World → Prop} (hgd : o.guard = none) (s x : Operand) (t : TypeId)
    (ho : o.op = .call { callee := .builtin .append, args := #[s, x], argTypes := #[t, t] })
    (i : TypeInfo) (ht : P.underlying t = some (.slice 2)) (hi : P.info? 2 = some i) (hz : i.zero = some (.int .i64 0)) (hsize : i.size = 1) (hby : i.bytes = 8)
    (B : Nat) (v : Value) (p : List Int) (hs : a.eval s = v) (hown : OwnN B v p w) (new : Int)
    (hx : a.eval x = .slice (some ⟨w.heap.size, 0, none⟩) 1 1) (hlen : p.length ≤ 1000000) (hB : B ≤ W.heap.size) (hb : Below B W w)
    (h : ∀ v' w', OwnN B v' (p ++ [new]) w' → Below B W w' → wpList P ops Q rest (a.put o.dst v') w') : wpList P ops Q (o :: rest) a (w.alloc (.cells #[.int .i64 new] 2)) := by
  have hsz := hb.size
  refine wpList_append_own _ hgd s x t ho B 2 i (.int .i64 0) 1 8 ht hi hz hsize hby rfl (by decide) v p.length (numCells p) hs (hown.alloc _) ⟨w.heap.size, 0, none⟩ 1 1 [.int .i64 new] hx
    rfl ?_ ?_ (by unfold maxLen; omega) (by omega) (by simp; omega) ?_
  · intro j u hj
    match j, hj with
    | 0, hj => simp at hj; subst hj; simp [Addr.add]
  · intro u hu
    simp at hu
    subst hu
    rfl
  · intro v' w' h1 h2 _
    refine h v' w' ?_ ?_
    · unfold OwnN
      rw [numCells, List.map_append, List.length_append]
      exact h1
    · exact (hb.alloc (by omega) _).grown h2 (by simp; omega) (fun k hk => (World.ownsRow.lt hown k hk).1)
theorem OwnN.nil (B : Nat) (w : World) : OwnN B (.slice none 0 0) [] w := World.ownsRow_nil _ _ _ _
/-- As a list that is handed on. -/
theorem OwnN.ints {B : Nat} {v : Value} {P : List Int} {w : World} (h : OwnN B v P w) : ∃ o cap, v = .slice o P.length cap ∧ Ints w.heap.size w o P := by
  obtain ⟨o, cap, rfl, hc⟩ := h.form
  refine ⟨o, cap, rfl, fun k hk => ?_⟩
  obtain ⟨g, rfl, -, hg, hcell⟩ := hc k hk
  exact ⟨_, rfl, hg, by rw [add_off]; exact hcell⟩
set_option maxHeartbeats 1000000 in
theorem implKinds (o od : Option Addr) (F : List Nd) (kids ks : List Int) (cap cd : Nat) (w : World) (hF : Nds w.heap.size w o F) (hk : Ints w.heap.size w od kids) (hl : kids.length ≤ 1000000) (hks : ks.length = kids.length) (hin : ∀ i (h : i < kids.length) (h' : i < ks.length), ∃ q : Nat, kids[i] = (q : Int) ∧ ∃ hq : q < F.length, F[q].kind = ks[i]) :
    Calls Try.prog 54 #[.slice o F.length cap, .slice od kids.length cd] w fun e w' => ∃ v, e = .returned v ∧ OwnN w.heap.size v ks w' ∧ Below w.heap.size w w' := by
  obtain ⟨i0, hi, hy0, hy1, hy2⟩ := info_parts Try.info2
  have HF := mkH hF
  have HK := mkH hk
  have Hin := mkH hin
  have Hks := mkH hks
  clear hF hk hin hks
  go_enter Try.func54, Try.ntmps54
  go_wp2
  go_loopw [5, 10] (fun v iv wr => ∃ k : Nat, k ≤ kids.length ∧ iv = .int .i64 k ∧ OwnN w.heap.size v (ks.take k) wr ∧ Below w.heap.size w wr) (fun _ iv _ => kids.length - (Lib.intOf iv).toNat)
  case atStart => exact ⟨0, Nat.zero_le _, rfl, by rw [List.take_zero]; exact OwnN.nil _ _, Below.refl _ _⟩
  case round =>
    obtain ⟨k, hk, rfl, hown, hb⟩ := hrel
    by_cases hlt : k < kids.length
    · have hlt2 : k < ks.length := by rw [Hks.out]; exact hlt
      obtain ⟨q, hq, hqF, hqk⟩ := Hin.out k hlt hlt2
      obtain ⟨a, rfl, ha, ck⟩ := (HK.out.below hb) k hlt
      obtain ⟨b, vn, vk, vd, rfl, hbb, hN, -⟩ := (HF.out.below hb) q hqF
      rw [hq] at ck
      have cn := hN.c0
      rw [hqk] at cn
      have hst : Hid (ks.take k ++ [ks[k]] = ks.take (k + 1)) := (List.take_succ_eq_append_getElem hlt2).symm
      have hle : (ks.take k).length ≤ 1000000 := by rw [List.length_take]; omega
      clear hN hq hqk
      generalize ks[k] = x at *
      generalize ks.take k = P at *
      go_wp2_with (at_builtin; go_must (refine wp_appN (W := w) rfl _ _ 35 rfl i0 Try.underlying35 hi hy0 hy1 hy2 w.heap.size u5 P rfl hown x rfl hle (Nat.le_refl _) hb ?_; intro v' w' hown' hb'))
      go_roundw
      case rel => exact ⟨k + 1, by omega, by go_num, by rw [← hst.out]; exact hown', hb'⟩
      case measure => simp [Lib.intOf]; omega
    · have he : Hid (ks.take k = ks) := List.take_of_length_le (by rw [Hks.out]; omega)
      rw [he.out] at hown
      go_wp2
      go_ret
      exact ⟨_, rfl, hown, hb⟩
end Go.Proofs.Ytonnmbkfjiddnaa
