
/- The walks of a reader of dates: a sign, an atom, digits. -/
import Derived.Test.YtacmhofekdjobaaGreatDoorDateRead1
import Derived.Test.YtacmhofekdjobaaGreatDoorAllOf
namespace Go.Proofs.YtacmhofekdjobaaGreatDoor
open Go.RowKit Go.Lib
set_option maxRecDepth 20000 in
theorem rdWant (g : Nat) (w : World) : Calls Tryz.prog 61 #[scp g, .bool true] w fun e w' => e = .returned (.tuple #[]) ∧ w' = w := by
  go_enter Tryz.func61, Tryz.ntmps61
  go_wp2
  exact bodyPost_end (v := .tuple #[]) (results_none Tryz.results61 _ _ _) rfl ⟨rfl, rfl⟩
set_option maxRecDepth 20000 in
theorem fieldT0 (a b c : Value) (w : World) : (Instr.field 70 (.agg #[a, b, c]) 0).run Tryz.prog w = .ok a w := by first | kernel_rfl | rfl
set_option maxRecDepth 20000 in
theorem rdOver (B g n : Nat) (T : List Tk) (s : ByteArray) (q : Nat × Nat) (ill : Bool) (w : World) (h : Rd B T g s q n ill w) (hl : T.length ≤ 100) (hs : s.size ≤ 4000) (hk : ∀ t ∈ T, t.kind ≠ 4) (hn : n = T.length) :
    Calls Tryz.prog 32 #[scp g] w fun e w' => e = .returned (.bool true) ∧ Below w.heap.size w w' := by
  have hP := rdPeek B g n T s q ill ⟨0, ⟨#[]⟩, s.size⟩ w h hl hs hk ⟨.inr ⟨hn, rfl⟩⟩
  have hV : tkV ⟨0, ⟨#[]⟩, s.size⟩ = .agg #[.int .i64 0, .string ⟨#[]⟩, .int .i64 s.size] := rfl
  rw [hV] at hP
  clear h
  have hfd := fieldT0
  go_enter Tryz.func32, Tryz.ntmps32
  go_wp2_with fail
  refine hP.mono ?_
  rintro e w1 ⟨rfl, hb⟩
  clear hP
  go_wp2_with fail
  go_ret
  exact ⟨rfl, hb⟩
set_option maxRecDepth 20000 in
theorem implIsSign (k : Nat) (x y : ByteArray) (a : Nat) (w : World) (hk : k = 5) :
    Calls Tryz.prog 94 #[.agg #[.int .i64 k, .string x, .int .i64 a], .string y] w fun e w' => e = .returned (.bool (x.toList == y.toList)) ∧ Below w.heap.size w w' := by
  subst hk
  go_enter Tryz.func94, Tryz.ntmps94
  go_wp2
  go_ret
  refine ⟨?_, (Below.refl _ _).alloc (Nat.le_refl _) _⟩
  rfl
set_option maxRecDepth 20000 in
theorem rdSignNext (B g n : Nat) (T : List Tk) (s : ByteArray) (q : Nat × Nat) (ill : Bool) (t : Tk) (y : ByteArray) (w : World) (h : Rd B T g s q n ill w) (hl : T.length ≤ 100) (hs : s.size ≤ 4000) (hk : ∀ t ∈ T, t.kind ≠ 4) (hn : T[n]? = some t) (h5 : t.kind = 5) :
    Calls Tryz.prog 86 #[scp g, .string y] w fun e w' => e = .returned (.bool (t.text.toList == y.toList)) ∧ Below w.heap.size w w' := by
  have hlt : n < T.length := by
    by_cases hc : n < T.length
    · exact hc
    · rw [List.getElem?_eq_none (by omega)] at hn; cases hn
  have hP := rdPeek B g n T s q ill t w h hl hs hk ⟨.inl ⟨hlt, hn, by omega⟩⟩
  obtain ⟨tk, tx, ta⟩ := t
  have hV : tkV ⟨tk, tx, ta⟩ = .agg #[.int .i64 tk, .string tx, .int .i64 ta] := rfl
  rw [hV] at hP
  have HS := (show Hid _ from fun (w : World) => implIsSign tk tx y ta w h5)
  clear h hn h5
  go_enter Tryz.func86, Tryz.ntmps86
  go_wp2_with fail
  refine hP.mono ?_
  rintro e w1 ⟨rfl, hb⟩
  clear hP
  go_wp2_with fail
  refine (HS.out _).mono ?_
  rintro e w2 ⟨rfl, hb2⟩
  clear HS
  go_wp2_with fail
  go_ret
  exact ⟨rfl, hb.trans (hb2.mono hb.size)⟩
set_option maxRecDepth 20000 in
theorem rdTakeSign (B g n : Nat) (T : List Tk) (s : ByteArray) (q : Nat × Nat) (ill : Bool) (t : Tk) (y : ByteArray) (w : World) (h : Rd B T g s q n ill w) (hl : T.length ≤ 100) (hs : s.size ≤ 4000) (hk : ∀ t ∈ T, t.kind ≠ 4) (hn : T[n]? = some t) (h5 : t.kind = 5) (hy : t.text = y) :
    Calls Tryz.prog 62 #[scp g, .string y] w fun e w' => e = .returned (.bool true) ∧ Rd B T g s q (n + 1) ill w' ∧ w.grownBy w' (some g) := by
  have hP := rdSignNext B g n T s q ill t y w h hl hs hk hn h5
  rw [show (t.text.toList == y.toList) = true from by rw [hy]; simp] at hP
  have HT := (show Hid _ from fun (w : World) h => rdTake B g n T s q ill t w h hl hs hk hn (by omega))
  have HR := (show Hid _ from h)
  clear h
  go_enter Tryz.func62, Tryz.ntmps62
  go_wp2_with fail
  refine hP.mono ?_
  rintro e w1 ⟨rfl, hb⟩
  clear hP
  go_wp2_with fail
  refine (HT.out _ (HR.out.below hb)).mono ?_
  rintro e w2 ⟨rfl, h2, g2⟩
  clear HT HR
  go_wp2_with fail
  go_ret
  exact ⟨rfl, h2, grown_trans (grown_below hb) g2⟩
set_option maxRecDepth 20000 in
set_option maxHeartbeats 1000000 in
theorem rdAtom (B g n : Nat) (T : List Tk) (s : ByteArray) (q : Nat × Nat) (ill : Bool) (t : Tk) (w : World) (h : Rd B T g s q n ill w) (hl : T.length ≤ 100) (hs : s.size ≤ 4000) (hk : ∀ t ∈ T, t.kind ≠ 4) (hn : T[n]? = some t) (h1 : t.kind = 1) :
    Calls Tryz.prog 64 #[scp g] w fun e w' => e = .returned (.string t.text) ∧ Rd B T g s q (n + 1) ill w' ∧ w.grownBy w' (some g) := by
  have hP := rdTake B g n T s q ill t w h hl hs hk hn (by omega)
  obtain ⟨tk, tx, ta⟩ := t
  have hV : tkV ⟨tk, tx, ta⟩ = .agg #[.int .i64 tk, .string tx, .int .i64 ta] := rfl
  rw [hV] at hP
  obtain rfl : tk = 1 := h1
  have HW := (show Hid _ from fun (w : World) => rdWant g w)
  clear h hn
  go_enter Tryz.func64, Tryz.ntmps64
  go_wp2_with fail
  refine hP.mono ?_
  rintro e w1 ⟨rfl, h2, g2⟩
  clear hP
  obtain ⟨X, hX⟩ : ∃ X, X = w1.alloc (.cells #[.int .i64 ((1 : Nat) : Int), .string tx, .int .i64 ta] 70) := ⟨_, rfl⟩
  have hbX : Below w1.heap.size w1 X := by rw [hX]; exact (Below.refl _ _).alloc (Nat.le_refl _) _
  have H2 := (show Hid _ from h2.below hbX)
  have G2 := (show Hid _ from grown_trans g2 (grown_below hbX))
  rw [hX] at H2 G2
  clear hX hbX h2 g2
  go_wp2_with fail
  refine (HW.out _).mono ?_
  rintro e w3 ⟨rfl, rfl⟩
  clear HW
  go_wp2_with fail
  go_ret
  exact ⟨rfl, H2.out, G2.out⟩
set_option maxRecDepth 20000 in
theorem kindDigit : Kind 66 Pl.digit := ⟨Go.Proofs.enters_of Tryz.func66 (by kernel_rfl) rfl, implDigit⟩
set_option maxRecDepth 20000 in
theorem kindLetter : Kind 69 Pl.letter := ⟨Go.Proofs.enters_of Tryz.func69 (by kernel_rfl) rfl, implLetter⟩
end Go.Proofs.YtacmhofekdjobaaGreatDoor
