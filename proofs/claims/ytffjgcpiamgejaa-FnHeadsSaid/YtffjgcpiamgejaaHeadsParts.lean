
/- FnHeads: its parts. -/
import Derived.Test.YtffjgcpiamgejaaDrawFold
import Derived.Test.YtffjgcpiamgejaaHeadsPlain
import Derived.Test.YtffjgcpiamgejaaImplWriteHead
import Derived.Test.YtffjgcpiamgejaaReadImpl
import Derived.Test.YtffjgcpiamgejaaImplFold
import Derived.Test.YtffjgcpiamgejaaSpecFold
namespace Go.Proofs.Ytffjgcpiamgejaa
open Go.RowKit Go.Lib
def toBA (F : List Fl) : List Fd := F.map fun f => (⟨f.1.toArray⟩, ⟨f.2.toArray⟩)
theorem OwnF.fld {B : Nat} {v : Value} {F : List Fl} {w : World} (h : OwnF B v F w) : ∃ o cap, v = .slice o F.length cap ∧ Fld w.heap.size w o (toBA F) := by
  rcases h.2 with ⟨rfl, h0⟩ | ⟨g, cap, cur, rfl, hB, hg, hc⟩
  · obtain rfl : F = [] := List.length_eq_zero_iff.1 h0
    exact ⟨none, 0, rfl, fun i hi => absurd hi (by simp [toBA])⟩
  · refine ⟨_, cap, rfl, ?_⟩
    intro i hi
    have hi' : i < F.length := by simpa [toBA] using hi
    obtain ⟨d0, d1⟩ := cellsF_get F i hi'
    have c0 := World.ownsRow.cells h (g := g) rfl (i * 2) _ d0
    have c1 := World.ownsRow.cells h (g := g) rfl (i * 2 + 1) _ d1
    rw [add_off] at c0 c1
    refine ⟨_, rfl, hp_lt hg, ?_, ?_⟩
    · rw [add_off, c0]; simp [toBA, txt]
    · rw [add_off]
      show w.cell? ⟨g, i * 2 + 1, none⟩ = _
      rw [c1]; simp [toBA, txt]
set_option maxHeartbeats 1000000 in
theorem lwFields (o1 o2 : Option Addr) (F : List Fd) (c1 c2 : Nat) (w : World) (h1 : Fld w.heap.size w o1 F) (h2 : Fld w.heap.size w o2 F) (hl : F.length ≤ 200) :
    Calls Try.prog 9 #[.slice o1 F.length c1, .slice o2 F.length c2] w fun e w' => e = .returned (.bool true) ∧ Below w.heap.size w w' := by
  have H1 : Hid (Fld w.heap.size w o1 F) := h1
  have H2 : Hid (Fld w.heap.size w o2 F) := h2
  clear h1 h2
  go_enter Try.func9, Try.ntmps9
  go_wp2
  go_loopw [5] (fun i wr => ∃ k : Nat, k ≤ F.length ∧ i = .int .i64 k ∧ Below w.heap.size w wr) (fun i _ => F.length - (Lib.intOf i).toNat)
  case atStart => exact ⟨0, Nat.zero_le _, rfl, Below.refl _ _⟩
  case round =>
    obtain ⟨k, hk, rfl, hb⟩ := hrel
    by_cases hlt : k < F.length
    · obtain ⟨a1, rfl, ha1, p1, q1⟩ := (H1.out.below hb) k hlt
      obtain ⟨a2, rfl, ha2, p2, q2⟩ := (H2.out.below hb) k hlt
      go_wp2
      go_quiet (fail)
      go_wp2
      go_roundw
      case rel => exact ⟨k + 1, by omega, by go_num, below_drewN hb _⟩
      case measure => simp [Lib.intOf]; omega
    · go_wp2
      go_ret
      exact ⟨rfl, hb⟩
theorem hd_lines : ∀ (F : List Fl) (out : List UInt8), Pl.hd out (toBA F) = [] ∨ (Pl.hd out (toBA F) = out ++ F.flatMap Pl.lineL ∧ ∀ f ∈ F, Pl.okL f = true)
  | [], out => by
    right
    exact ⟨by simp [toBA, Pl.hd], fun f hf => absurd hf (List.not_mem_nil)⟩
  | f :: F, out => by
    show Pl.hd out ((⟨f.1.toArray⟩, ⟨f.2.toArray⟩) :: toBA F) = [] ∨ _
    rw [show toBA (f :: F) = (⟨f.1.toArray⟩, ⟨f.2.toArray⟩) :: toBA F from rfl, Pl.hd]
    split
    · rename_i hok
      split
      · exact .inl rfl
      · have hl : Pl.line (⟨f.1.toArray⟩, ⟨f.2.toArray⟩) = Pl.lineL f := by simp [Pl.line, Pl.lineL]
        rw [hl]
        rcases hd_lines F (out ++ Pl.lineL f) with h | ⟨h, hh⟩
        · exact .inl h
        · right
          refine ⟨by rw [h, List.flatMap_cons]; simp, ?_⟩
          intro x hx
          rcases List.mem_cons.1 hx with rfl | hx
          · unfold Pl.okF at hok
            simp only [Bool.and_eq_true] at hok
            unfold Pl.okL
            rw [Bool.and_eq_true]
            exact hok.2
          · exact hh x hx
    · exact .inl rfl
theorem lines_len : ∀ F : List Fl, Small F → (F.flatMap Pl.lineL).length ≤ 500 * F.length
  | [], _ => by simp
  | f :: F, h => by
    have := lines_len F (fun x hx => h x (List.mem_cons_of_mem _ hx))
    have hf := h f (List.mem_cons_self)
    have e : (Pl.lineL f).length = f.1.length + f.2.length + 3 := by simp [Pl.lineL]; omega
    rw [List.flatMap_cons, List.length_append, List.length_cons, e]
    omega
theorem small_ba {F : List Fl} (h : Small F) : ∀ f ∈ toBA F, f.1.size ≤ 1048576 ∧ f.2.size ≤ 1048576 := by
  intro f hf
  obtain ⟨x, hx, rfl⟩ := List.mem_map.1 hf
  have := h x hx
  constructor
  · show x.1.toArray.size ≤ _; rw [List.size_toArray]; omega
  · show x.2.toArray.size ≤ _; rw [List.size_toArray]; omega
def foldV (t : ByteArray) (x : Int) : ByteArray := if x < 0 ∨ 78 < x ∨ t.data.toList.all Pl.lb = false then t else ⟨(Pl.fld t.data.toList x.toNat false).toArray⟩
theorem specFoldAny (t : ByteArray) (x : Int) (w : World) (hs : t.size ≤ 100000) : Calls Try.prog 12 #[.string t, .int .i64 x] w fun e w' => e = .returned (.string (foldV t x)) ∧ Below w.heap.size w w' := by
  unfold foldV
  by_cases h : x < 0 ∨ 78 < x ∨ t.data.toList.all Pl.lb = false
  · rw [if_pos h]
    refine (specFoldRaw t x w hs h).mono ?_
    rintro e w' ⟨rfl, rfl⟩
    exact ⟨rfl, Below.refl _ _⟩
  · rw [if_neg h]
    rw [not_or, not_or] at h
    obtain ⟨h1, h2, h3⟩ := h
    rw [Bool.not_eq_false] at h3
    obtain ⟨u, rfl⟩ : ∃ u : Nat, x = u := ⟨x.toNat, by omega⟩
    exact specFold t u w hs (by omega) h3
theorem implFoldAny (t : ByteArray) (x : Int) (w : World) (hs : t.size ≤ 100000) : Calls Try.prog 11 #[.string t, .int .i64 x] w fun e w' => e = .returned (.string (foldV t x)) ∧ Below w.heap.size w w' := by
  unfold foldV
  by_cases h : x < 0 ∨ 78 < x ∨ t.data.toList.all Pl.lb = false
  · rw [if_pos h]
    exact implFoldRaw t x w hs h
  · rw [if_neg h]
    rw [not_or, not_or] at h
    obtain ⟨h1, h2, h3⟩ := h
    rw [Bool.not_eq_false] at h3
    obtain ⟨u, rfl⟩ : ∃ u : Nat, x = u := ⟨x.toNat, by omega⟩
    exact implFold t u w hs (by omega) h3
theorem foldV_size (t : ByteArray) (x : Int) : (foldV t x).size ≤ 3 * t.size := by
  unfold foldV
  split
  · omega
  · show (Pl.fld t.data.toList x.toNat false).toArray.size ≤ _
    rw [List.size_toArray]
    have := Pl.fo_len t.data.toList.length t.data.toList x.toNat false
    rw [Pl.len_list] at this
    unfold Pl.fld
    rw [Pl.len_list]
    exact this
theorem foldV_unf (t : ByteArray) (x : Int) (h : t.data.toList.all Pl.lb = true) : (⟨(Pl.unf false (foldV t x).data.toList).toArray⟩ : ByteArray) = t := by
  have e : Pl.unf false (foldV t x).data.toList = t.data.toList := by
    unfold foldV
    split
    · have := Pl.unf_app t.data.toList [] h
      simpa [Pl.unf] using this
    · exact Pl.fld_unf _ _ _ h
  rw [e]
end Go.Proofs.Ytffjgcpiamgejaa
