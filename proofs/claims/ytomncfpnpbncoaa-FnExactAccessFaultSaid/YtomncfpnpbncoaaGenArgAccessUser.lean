
/- AccessUser as an argument: opened. (By tools/gen/structs.py.) -/
import Derived.Test.YtomncfpnpbncoaaGenArgBase
import Derived.Test.YtomncfpnpbncoaaGenAccessUser
namespace Go.Proofs.Ytomncfpnpbncoaa
open Go.RowKit Go.Lib Go.ChangeShapes Go.WideShapes
theorem Try.cells_AccessUser : Try.prog.cellsOf 31 = 3 := by kernel_rfl
theorem Try.cells_sAccessUser : Try.prog.cellsOf 22 = 1 := by kernel_rfl
theorem GAccessUser_list {α : Type} {l : List α} (h : l.length = 3) : ∃ c0 c1 c2, l = [c0, c1, c2] := by
  match l, h with
  | [c0, c1, c2], _ => exact ⟨c0, c1, c2, rfl⟩
theorem GAccessUser_of {H : Type} {enc : TypeId × Value → H} {W : World} {sp : Nat → Bool} {k0 : Nat} {cs : List Value} {y : DataW H × List MemPlace} (hlen : cs.length = 3) (h2 : DataW.trod enc Try.prog W 0 sp true k0 31 cs = some y) :
    ∃ (q : GAccessUser), cs = [.string q.name, .string q.password, .bool q.readOnly] ∧ q.fits maxLen := by
  obtain ⟨xs, k, -, -, -, hxl, hf⟩ := DataW.trod_struct Try.underlying31 h2
  obtain ⟨x0, x1, x2, rfl⟩ := GAccessUser_list hlen
  obtain ⟨y0, y1, y2, rfl⟩ := GAccessUser_list (hxl.trans rfl)
  have g0 := hf 0 _ rfl
  simp [Try.cells9] at g0
  obtain ⟨z0, e0, -, b0⟩ := DataW.trod_string Try.underlying9 g0
  have e0 : x0 = .string z0 := by simpa using e0
  have g1 := hf 1 _ rfl
  simp [Try.cells9] at g1
  obtain ⟨z1, e1, -, b1⟩ := DataW.trod_string Try.underlying9 g1
  have e1 : x1 = .string z1 := by simpa using e1
  have g2 := hf 2 _ rfl
  simp [Try.cells4] at g2
  obtain ⟨z2, e2, -⟩ := DataW.trod_bool Try.underlying4 g2
  have e2 : x2 = .bool z2 := by simpa using e2
  subst e0 e1 e2
  exact ⟨⟨z0, z1, z2⟩, rfl, ⟨b0, b1⟩⟩
theorem GAccessUser_arg {H : Type} {enc : TypeId × Value → H} {W : World} {sp : Nat → Bool} {v : Value} {d : DataW H} {ps : List MemPlace} {r : Reach} {b0 : Nat} (hval : Value.okWide Try.prog W r b0 31 v) (h : DataW.Trod enc Try.prog W 0 sp true 31 v d ps) :
    ∃ (q : GAccessUser), v = GAccessUserV q ∧ q.fits maxLen := by
  obtain ⟨cs, rfl, hsz⟩ := Go.WideShapes.okWide_struct Try.underlying31 hval
  obtain ⟨fuel, hf⟩ := h
  obtain ⟨q, e, hfit⟩ := GAccessUser_of (by simp only [Value.cells]; rw [Array.length_toList]; exact hsz.trans (by kernel_rfl)) hf
  simp only [Value.cells] at e
  have e2 := congrArg List.toArray e
  rw [Array.toArray_toList] at e2
  subst e2
  exact ⟨q, rfl, hfit⟩
theorem open_SAccessUser {H : Type} {enc : TypeId × Value → H} {W : World} {sp : Nat → Bool} {v : Value} {y : DataW H × List MemPlace} {fuel : Nat} (hx : DataW.trod enc Try.prog W 0 sp true fuel 22 [v] = some y) :
    ∃ o F cap, v = .slice o F.length cap ∧ GAccessUsersL 0 W.heap.size W o F ∧ F.length ≤ maxLen ∧ ∀ f ∈ F, f.fits maxLen := by
  rcases Go.Deep.open_slice Try.underlying22 hx with ⟨hc, -⟩ | ⟨a', len, cap, m, n, D, Pl, hc, -, hl, hm, hmm, -, hall⟩
  · simp at hc
    subst hc
    exact ⟨none, [], 0, rfl, fun i hi => absurd hi (Nat.not_lt_zero _), Nat.zero_le _, fun f hf => by cases hf⟩
  · simp at hc
    subst hc
    have hlm : len ≤ m := by rw [hmm]; split <;> omega
    have each : ∀ i, i < m → ∃ q : GAccessUser, (GAccessUserAt W (a'.add (i * 3)) q) ∧ q.fits maxLen ∧ a'.block < W.heap.size := by
      intro i hi
      obtain ⟨cs', h1, h2⟩ := hall i hi
      rw [Try.cells_AccessUser] at h1
      obtain ⟨_, hlen, hcell⟩ := World.cells?_some h1
      obtain ⟨q, rfl, hfit⟩ := GAccessUser_of hlen h2
      have d0 := hcell 0 (by omega)
      have d1 := hcell 1 (by omega)
      have d2 := hcell 2 (by omega)
      rw [show (a'.add (i * 3)).add 0 = a'.add (i * 3) from add_zeroG _] at d0
      rw [add_moreG _ 0] at d1
      rw [add_moreG _ 1] at d2
      exact ⟨q, ⟨by simpa using d0, by simpa using d1, by simpa using d2⟩, hfit, by have := World.block_lt_of_cell? _ _ d0; rw [add_blockG] at this; exact this⟩
    haveI : Inhabited GAccessUser := ⟨⟨⟨#[]⟩, ⟨#[]⟩, false⟩⟩
    obtain ⟨q, hq⟩ := Go.Deep.choose_lt each
    refine ⟨some a', (List.range len).map q, cap, by simp, ?_, by simp; omega, ?_⟩
    · intro i hi
      simp at hi
      obtain ⟨x1, -, x3⟩ := hq i (by omega)
      exact ⟨a', rfl, Nat.zero_le _, x3, by simpa using x1⟩
    · intro f hf
      simp only [List.mem_map, List.mem_range] at hf
      obtain ⟨i, hi, rfl⟩ := hf
      exact (hq i (by omega)).2.1
end Go.Proofs.Ytomncfpnpbncoaa
