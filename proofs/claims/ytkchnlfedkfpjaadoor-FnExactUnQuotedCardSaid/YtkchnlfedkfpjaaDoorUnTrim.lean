/- Blanks left out at a text's end, by the library. -/
import Derived.Test.YtkchnlfedkfpjaaDoorUnLine
import Derived.Lib.AsciiSet
namespace Go.Proofs.YtkchnlfedkfpjaaDoor
open Go.RowKit Go.Lib
namespace Pl
def bl (c : UInt8) : Bool := c == 32 || c == 9
/-- How many bytes of the first k are left without the blanks at their end. -/
def tk (l : List UInt8) : Nat → Nat
  | 0 => 0
  | k + 1 => if bl (l.getD k 0) then tk l k else k + 1
def trimR (l : List UInt8) : List UInt8 := l.take (tk l l.length)
theorem tk_le (l : List UInt8) : ∀ k, tk l k ≤ k
  | 0 => Nat.le_refl _
  | k + 1 => by
    unfold tk
    split
    · exact Nat.le_succ_of_le (tk_le l k)
    · exact Nat.le_refl _
end Pl
theorem ext_ext (s : ByteArray) (a b : Nat) (h : b ≤ a) : (s.extract 0 a).extract 0 b = s.extract 0 b := by
  apply ByteArray.ext
  simp [Nat.min_eq_left h]
theorem ext_at (s : ByteArray) (k j : Nat) (hj : j < k) (hk : k ≤ s.size) : (s.extract 0 k)[j]'(by simp; omega) = s[j] := by
  simp [ByteArray.getElem_extract]
theorem ext_list (s : ByteArray) (k : Nat) : (s.extract 0 k).data.toList = s.data.toList.take k := by
  simp
set_option maxRecDepth 40000 in
set_option maxHeartbeats 2000000 in
theorem libTrimAscii (s : ByteArray) (b : Nat) (w : World) (hs : s.size ≤ 1100000) (hset : ∀ x : UInt8, w.cell? ⟨b, x.toNat, none⟩ = some (.bool (Pl.bl x))) :
    Calls Tryd.prog 19 #[.string s, .pointer (some ⟨b, 0, none⟩)] w fun e w' => e = .returned (.string (s.extract 0 (Pl.tk s.data.toList s.size))) ∧ w' = w := by
  have Hset : Hid (∀ x : UInt8, w.cell? ⟨b, x.toNat, none⟩ = some (.bool (Pl.bl x))) := hset
  clear hset
  go_enter Tryd.func19, Tryd.ntmps19
  go_wp2
  go_loopw [0] (fun v wr => ∃ k : Nat, k ≤ s.size ∧ v = .string (s.extract 0 k) ∧ Hid (Pl.tk s.data.toList k = Pl.tk s.data.toList s.size) ∧ wr = w) (fun v _ => match v with | .string t => t.size | _ => 0)
  case atStart => exact ⟨s.size, Nat.le_refl _, by rw [ByteArray.extract_zero_size], rfl, rfl⟩
  case round =>
    obtain ⟨k, hk, rfl, hp, rfl⟩ := hrel
    have hsz : (s.extract 0 k).size = k := by simp; omega
    cases k with
    | zero =>
      have hE : Hid (Pl.tk s.data.toList s.size = 0) := show _ = _ from hp.out.symm
      go_wp2
      go_ret
      rw [hE.out]
      exact ⟨rfl, rfl⟩
    | succ k =>
      have hat : (s.extract 0 (k + 1))[k]'(by omega) = s[k] := ext_at s (k + 1) k (by omega) (by omega)
      have hcut := ext_ext s (k + 1) k (by omega)
      have hval : s.data.toList.getD k 0 = s[k] := by
        rw [List.getD_eq_getElem?_getD, List.getElem?_eq_getElem (by rw [Pl.len_list]; omega)]
        exact Pl.at_list s k (by omega)
      have hq := hp.out
      rw [Pl.tk, hval] at hq
      have hcon := Tryd.asciiSet_contains b s[k] _ wr (Hset.out s[k])
      obtain ⟨t, ht⟩ : ∃ t, t = s.extract 0 (k + 1) := ⟨_, rfl⟩
      have hat' : ∀ h, t[k]'h = s[k] := by subst ht; intro h; exact hat
      have hsz' : t.size = k + 1 := by rw [ht]; exact hsz
      have hcut' : t.extract 0 k = s.extract 0 k := by rw [ht]; exact hcut
      have Ht : Hid (t = s.extract 0 (k + 1)) := ht
      rw [← ht]
      clear hat hcut hsz ht hval hp Hset
      cases hb : Pl.bl s[k]
      · rw [hb] at hq hcon
        have hE : Hid (Pl.tk s.data.toList s.size = k + 1) := show _ = _ from hq.symm
        clear hq hb
        go_wp2_with (go_at_call 24; go_must (refine hcon.mono ?_; rintro e w2 ⟨rfl, rfl⟩))
        go_ret
        rw [hE.out, ← Ht.out]
        exact ⟨rfl, rfl⟩
      · rw [hb] at hq hcon
        have hE : Hid (Pl.tk s.data.toList k = Pl.tk s.data.toList s.size) := show _ = _ from hq
        clear hq hb
        go_wp2_with (go_at_call 24; go_must (refine hcon.mono ?_; rintro e w2 ⟨rfl, rfl⟩))
        go_roundw
        case rel => exact ⟨k, by omega, by first | rfl | rw [hcut'], hE, trivial⟩
        case measure => simp; omega
theorem heap_alloc_at (w : World) (o : Obj) : (w.alloc o).heap[w.heap.size]? = some o := by
  show (w.heap.push o)[w.heap.size]? = some o
  simp
theorem grown_setRow (w : World) (g : Nat) (cs : Array Value) : w.grownBy (w.setRow g cs) (some g) :=
  ⟨rfl, rfl, rfl, by simp, fun i _ hi => setRow_other w g i cs (fun e => hi (by rw [e]))⟩
theorem wpL_store_row {P : Program} {w : World} {ops : Array Oper} {rest : List Oper} {o : Oper} {a : Act} {Q : Exit → Act → World → Prop} (hg : o.guard = none) (ty : TypeId) (x y : Operand) (ho : o.op = .store ty x y)
    (g : Nat) (cells : Array Value) (hx : a.eval x = .pointer (some ⟨g, 0, none⟩)) (hy : a.eval y = .agg cells)
    (t : TypeId) (old : Array Value) (hgp : w.heap[g]? = some (.cells old t (0, 0))) (hi : (P.info? ty).map (·.size) = some cells.size)
    (hold : old.size = cells.size) (h1 : cells.all (·.oneCell') = true)
    (h : wpList P ops Q rest (a.put o.dst undef) (w.setRow g cells)) : wpList P ops Q (o :: rest) a w := by
  refine wpList_plain hg fun K' hK' => ?_
  exact wp_store_row ty x y ho g cells hx hy t old hgp hi hold h1 (hK' _ _ h)
theorem blanks_set (x : UInt8) : ([32, 9] : List UInt8).contains x = Pl.bl x := by
  by_cases h1 : x = 32 <;> by_cases h2 : x = 9 <;> simp [Pl.bl, h1, h2]
set_option maxRecDepth 40000 in
set_option maxHeartbeats 2000000 in
theorem libTrimRight (s : ByteArray) (w : World) (hs : s.size ≤ 1100000) :
    Calls Tryd.prog 13 #[.string s, .string ⟨#[32, 9]⟩] w fun e w' => e = .returned (.string (s.extract 0 (Pl.tk s.data.toList s.size))) ∧ Below w.heap.size w w' := by
  by_cases h0 : s.size = 0
  · have hE := isEmpty_of s h0
    have hs0 : s.extract 0 (Pl.tk s.data.toList s.size) = s := by
      rw [h0]
      apply ByteArray.ext
      apply Array.ext
      · simp [Pl.tk]; exact h0.symm
      · intro i h1 h2; simp [Pl.tk] at h1
    rw [hs0]
    go_enter Tryd.func13, Tryd.ntmps13
    go_wp2
    go_ret
    exact ⟨rfl, Below.refl _ _⟩
  · have hE := isEmpty_ne s h0
    have hz : ∀ w, (zeroValue 40).run Tryd.prog w = .ok (.agg (Array.replicate 256 (.bool false))) w := fun w => by kernel_rfl
    go_enter Tryd.func13, Tryd.ntmps13
    go_wp2_with fail
    refine (Tryd.strings_makeASCIISet hz ⟨#[32, 9]⟩ _ (by decide) (by intro j b hj; match j, hj with | 0, hj => cases hj; decide | 1, hj => cases hj; decide)).mono ?_
    rintro e w2 ⟨rfl, rfl⟩
    obtain ⟨W, hW⟩ : ∃ W, W = (w.alloc (.cells (setCells [32, 9]) 40)).alloc (.cells (Array.replicate 256 (.bool false)) 40) := ⟨_, rfl⟩
    have hbW : Below w.heap.size w W := by rw [hW]; exact ((Below.refl _ _).alloc (Nat.le_refl _) _).alloc (by simp) _
    have hgW : ((w.alloc (.cells (setCells [32, 9]) 40)).alloc (.cells (Array.replicate 256 (.bool false)) 40)).heap[w.heap.size + 1]? = some (.cells (Array.replicate 256 (.bool false)) 40 (0, 0)) := by
      have := heap_alloc_at (w.alloc (.cells (setCells [32, 9]) 40)) (.cells (Array.replicate 256 (.bool false)) 40)
      simpa using this
    have hgs := grown_setRow W (w.heap.size + 1) (setCells [32, 9])
    have hb2 := hbW.grown hgs hbW.size (fun j hj => by cases hj; exact Nat.le_succ _)
    have hset : ∀ x : UInt8, (W.setRow (w.heap.size + 1) (setCells [32, 9])).cell? ⟨w.heap.size + 1, x.toNat, none⟩ = some (.bool (Pl.bl x)) := by
      intro x
      rw [cell_setRow_same W _ _ _ _ 40 (0, 0) (by rw [hW]; exact hgW), setCells_at, blanks_set]
    have hT := libTrimAscii s (w.heap.size + 1) _ hs hset
    rw [hW] at hT hb2
    go_wp2_with (first | (refine wpL_store_row rfl 40 _ _ rfl (w.heap.size + 1) (setCells [32, 9]) rfl rfl 40 _ hgW (by rw [setCells_size]; kernel_rfl) (by rw [setCells_size]; simp) (setCells_one _) ?_) | (go_at_call 19; go_must (refine hT.mono ?_; rintro e w3 ⟨rfl, rfl⟩)))
    go_ret
    exact ⟨rfl, hb2⟩
end Go.Proofs.YtkchnlfedkfpjaaDoor
