
/- The specification's EncodeOp: an operation that is not within its bounds: no text. -/

/- The specification's l15Short: some bytes, longer by the text and one. -/

/- The specification's l15Put: some bytes, longer by the places. -/

/- The specification's EncodeOp within its head's bounds. -/

/- The program's encoder in memory, and what its methods leave. -/
import Derived.Test.YtillilllceeonaaDoorDrawOpF
import Derived.Test.YtillilllceeonaaDoorSpecAddrs
import Derived.Maps.AppendAt
import Derived.Handy
namespace Go.Proofs.YtillilllceeonaaDoor
open Go.RowKit Go.Lib Go.Maps
/-- What stands in the operation itself is within its bounds. -/
def OpP.inHead (q : OpP) : Prop := ¬ q.k < 1 ∧ ¬ 9 < q.k ∧ ¬ (255 : Int) < (q.bx.size : Int) ∧ ¬ (255 : Int) < (q.tt.size : Int) ∧ ¬ (300 : Int) < (q.U.length : Int) ∧ ¬ (255 : Int) < (q.P.length : Int) ∧ ¬ q.tm < 0 ∧ ¬ 253402300799 < q.tm ∧ ¬ q.md < 0 ∧ ¬ 4294967295 < q.md ∧ ¬ (100000 : Int) < (q.ms.size : Int)
set_option maxRecDepth 20000 in
set_option maxHeartbeats 4000000 in
theorem encOut (q : OpP) (uo fo : Option Addr) (uc fc : Nat) (w : World) (h : ¬ q.inHead) :
    Calls Tryd.prog 5 #[.agg #[.int .i64 q.k, .string q.bx, .string q.tt, .slice uo q.U.length uc, .slice fo q.P.length fc, .int .i64 q.tm, .int .i64 q.md, .string q.ms]] w fun e w' => e = .returned (.string ⟨#[]⟩) ∧ Below w.heap.size w w' := by
  unfold OpP.inHead at h
  have hA : ∀ ob, Below w.heap.size w (w.alloc ob) := fun ob => (Below.refl _ _).alloc (Nat.le_refl _) _
  obtain ⟨k, bx, tt, U, P, tm, md, ms⟩ := q
  simp only at h ⊢
  by_cases hk1 : k < 1
  · clear h
    go_enter Tryd.func5, Tryd.ntmps5
    go_wp2
    go_ret
    exact ⟨rfl, hA _⟩
  by_cases hk9 : 9 < k
  · clear h
    go_enter Tryd.func5, Tryd.ntmps5
    go_wp2
    go_ret
    exact ⟨rfl, hA _⟩
  by_cases hbx : (255 : Int) < (bx.size : Int)
  · clear h
    go_enter Tryd.func5, Tryd.ntmps5
    go_wp2
    go_ret
    exact ⟨rfl, hA _⟩
  by_cases htt : (255 : Int) < (tt.size : Int)
  · clear h
    go_enter Tryd.func5, Tryd.ntmps5
    go_wp2
    go_ret
    exact ⟨rfl, hA _⟩
  by_cases hu : (300 : Int) < (U.length : Int)
  · clear h
    go_enter Tryd.func5, Tryd.ntmps5
    go_wp2
    go_ret
    exact ⟨rfl, hA _⟩
  by_cases hp : (255 : Int) < (P.length : Int)
  · clear h
    go_enter Tryd.func5, Tryd.ntmps5
    go_wp2
    go_ret
    exact ⟨rfl, hA _⟩
  by_cases ht0 : tm < 0
  · clear h
    go_enter Tryd.func5, Tryd.ntmps5
    go_wp2
    go_ret
    exact ⟨rfl, hA _⟩
  by_cases ht1 : 253402300799 < tm
  · clear h
    go_enter Tryd.func5, Tryd.ntmps5
    go_wp2
    go_ret
    exact ⟨rfl, hA _⟩
  by_cases hm0 : md < 0
  · clear h
    go_enter Tryd.func5, Tryd.ntmps5
    go_wp2
    go_ret
    exact ⟨rfl, hA _⟩
  by_cases hm1 : 4294967295 < md
  · clear h
    go_enter Tryd.func5, Tryd.ntmps5
    go_wp2
    go_ret
    exact ⟨rfl, hA _⟩
  by_cases hms : (100000 : Int) < (ms.size : Int)
  · clear h
    go_enter Tryd.func5, Tryd.ntmps5
    go_wp2
    go_ret
    exact ⟨rfl, hA _⟩
  exact absurd ⟨hk1, hk9, hbx, htt, hu, hp, ht0, ht1, hm0, hm1, hms⟩ h
end Go.Proofs.YtillilllceeonaaDoor
namespace Go.Proofs.YtillilllceeonaaDoor
open Go.RowKit Go.Lib Go.Maps
set_option maxRecDepth 20000 in
set_option maxHeartbeats 1000000 in
theorem srcShort (B : Nat) (v : Value) (p : List UInt8) (t : ByteArray) (w : World) (hO : Own B v p w) (hB : B ≤ w.heap.size) (hp : p.length ≤ 1000000) (ht : t.size ≤ 255) :
    Calls Tryd.prog 12 #[v, .string t] w fun e w' => ∃ v' q, e = .returned v' ∧ Own B v' q w' ∧ q.length = p.length + 1 + t.size ∧ Below B w w' := by
  obtain ⟨i0, hi0, hy0, hy1, hy2⟩ := info_parts Tryd.info5
  have hI : (t.size : Int) ≤ 255 := by omega
  have hts : t.data.toList.length = t.size := by simp
  have hby : Hid ([Value.int IntKind.u8 (t.size : Int)] = byteCells [UInt8.ofNat t.size]) := mkHid (by simp [byteCells, UInt8.toNat_ofNat']; omega)
  go_enter Tryd.func12, Tryd.ntmps12
  go_wp2_with (at_builtin; go_must (refine wp_appG (w := w) rfl _ _ 22 rfl i0 Tryd.underlying22 hi0 hy0 hy1 hy2 B v p rfl hO _ [UInt8.ofNat t.size] hby.out 1 1 rfl rfl (by simp; omega) hB ?_; intro v2 w2 hO2 hG2; refine Hid.out ?_))
  have hA2 : Own B v p (w.alloc (.cells #[.int .u8 (t.size : Int)] 5)) := World.ownsRow.alloc hO _
  have hb2 : Below B w w2 := ((Below.refl _ _).alloc hB _).grown hG2 (by simp; omega) (fun k hk => (World.ownsRow.lt hA2 k hk).1)
  refine mkHid ?_
  go_wp2_with (at_builtin; go_must (refine wp_appsG (w := w2) rfl _ _ 22 9 rfl i0 Tryd.underlying22 Tryd.underlying9 hi0 hy0 hy1 hy2 B v2 (p ++ [UInt8.ofNat t.size]) rfl hO2 t rfl (by simp; omega) (Nat.le_trans hB hb2.size) ?_; intro v3 w3 hO3 hG3; refine Hid.out ?_))
  have hb3 : Below B w w3 := hb2.grown hG3 (Nat.le_trans hB hb2.size) (fun k hk => (World.ownsRow.lt hO2 k hk).1)
  refine mkHid ?_
  go_wp2
  go_ret
  exact ⟨_, _, rfl, hO3, by simp; omega, hb3⟩
end Go.Proofs.YtillilllceeonaaDoor
namespace Go.Proofs.YtillilllceeonaaDoor
open Go.RowKit Go.Lib Go.Maps
set_option maxRecDepth 20000 in
set_option maxHeartbeats 4000000 in
theorem srcPut (B : Nat) (v : Value) (p : List UInt8) (m k : Nat) (w : World) (hO : Own B v p w) (hB : B ≤ w.heap.size) (hp : p.length ≤ 1000000) (hm : m ≤ 4611686018427387904) (hk : k ≤ 8) :
    Calls Tryd.prog 13 #[v, .int .i64 m, .int .i64 k] w fun e w' => ∃ v' q, e = .returned v' ∧ Own B v' q w' ∧ q.length = p.length + k ∧ Below B w w' := by
  obtain ⟨i0, hi0, hy0, hy1, hy2⟩ := info_parts Tryd.info5
  have HO := mkHid hO
  clear hO
  go_enter Tryd.func13, Tryd.ntmps13
  go_wp2
  go_loopw [0, 7] (fun ov kv wr => ∃ (i : Nat) (q : List UInt8), i ≤ k ∧ kv = .int .i64 ((i : Int) - 1) ∧ q.length + i = p.length + k ∧ Hid (Own B ov q wr) ∧ Hid (Below B w wr)) (fun _ kv _ => (Lib.intOf kv + 1).toNat)
  case atStart => exact ⟨k, p, Nat.le_refl _, rfl, rfl, HO, mkHid (Below.refl _ _)⟩
  case round =>
    clear HO
    obtain ⟨i, q, hi, rfl, hq, HO, Hb⟩ := hrel
    have hBr : B ≤ wr.heap.size := Nat.le_trans hB Hb.out.size
    by_cases hlt : 0 < i
    · obtain ⟨j, rfl⟩ : ∃ j, i = j + 1 := ⟨i - 1, by omega⟩
      have hc : (((j + 1 : Nat) : Int) - 1) = (j : Int) := by omega
      rw [hc]
      have hj0 : (0 : Int) ≤ (j : Int) := by omega
      clear hc
      go_wp2
      go_loopw [8, 9] (fun nv jv wz => ∃ (x g : Nat), nv = .int .i64 x ∧ x ≤ 4611686018427387904 ∧ jv = .int .i64 g ∧ g ≤ j ∧ wr = wz) (fun _ jv _ => j - (Lib.intOf jv).toNat)
      case atStart => exact ⟨m, 0, rfl, hm, rfl, Nat.zero_le _, rfl⟩
      case round =>
        obtain ⟨x, g, rfl, hx, rfl, hg, rfl⟩ := hrel
        have hdv : ((x : Int)).tdiv 256 = ((x / 256 : Nat) : Int) := by rw [Int.tdiv_eq_ediv_of_nonneg (by omega)]; omega
        have hrm : ((x : Int)).tmod 256 = ((x % 256 : Nat) : Int) := by rw [Int.tmod_eq_emod_of_nonneg (by omega)]; omega
        have hr2 : ((x % 256 : Nat) : Int) ≤ 255 := by omega
        have hx2 : x / 256 ≤ 4611686018427387904 := by omega
        by_cases hgj : g < j
        · have hgi : (g : Int) < (j : Int) := by omega
          clear hrm hr2
          generalize x / 256 = y at hdv hx2
          go_wp2
          refine ⟨⟨y, g + 1, rfl, hx2, by go_num, by omega, trivial⟩, by simp [Lib.intOf]; omega⟩
        · have hgi : ¬ (g : Int) < (j : Int) := by omega
          clear hdv hx2
          obtain ⟨y, hy⟩ : ∃ y, x % 256 = y := ⟨_, rfl⟩
          rw [hy] at hrm hr2
          have hby : Hid ([Value.int IntKind.u8 (y : Int)] = byteCells [UInt8.ofNat y]) := mkHid (by simp [byteCells, UInt8.toNat_ofNat']; omega)
          go_wp2_with (at_builtin; go_must (refine wp_appG (w := wr) rfl _ _ 22 rfl i0 Tryd.underlying22 hi0 hy0 hy1 hy2 B u0 q rfl HO.out _ [UInt8.ofNat y] hby.out 1 1 rfl rfl (by simp; omega) hBr ?_; intro v2 w2 hO2 hG2; refine Hid.out ?_))
          have hA2 : Own B u0 q (wr.alloc (.cells #[.int .u8 (y : Int)] 5)) := World.ownsRow.alloc HO.out _
          have hb2 : Below B w w2 := (Hb.out.alloc hBr _).grown hG2 (by simp; omega) (fun k hk => (World.ownsRow.lt hA2 k hk).1)
          have HO2 := mkHid hO2
          have Hb2 := mkHid hb2
          clear hO2 hb2 hG2 hA2
          refine mkHid ?_
          go_wp2
          refine ⟨⟨j, q ++ [UInt8.ofNat y], by omega, rfl, by simp; omega, HO2, Hb2⟩, by simp [Lib.intOf]⟩
    · skip
      have h0 : i = 0 := by omega
      subst h0
      go_wp2
      go_ret
      exact ⟨_, _, rfl, HO.out, by omega, Hb.out⟩
end Go.Proofs.YtillilllceeonaaDoor
namespace Go.Proofs.YtillilllceeonaaDoor
open Go.RowKit Go.Lib Go.Maps
set_option maxRecDepth 20000 in
set_option maxHeartbeats 8000000 in
theorem encIn (q : OpP) (uo fo : Option Addr) (uc fc : Nat) (w : World) (h : q.inHead)
    (hU : ∀ j (hj : j < q.U.length), ∃ g, uo = some ⟨g, 0, none⟩ ∧ g < w.heap.size ∧ w.cell? ⟨g, j, none⟩ = some (.int .i64 q.U[j]))
    (hP : ∀ j (hj : j < q.P.length), ∃ g, fo = some ⟨g, 0, none⟩ ∧ g < w.heap.size ∧ w.cell? ⟨g, j, none⟩ = some (.string q.P[j])) :
    Calls Tryd.prog 5 #[.agg #[.int .i64 q.k, .string q.bx, .string q.tt, .slice uo q.U.length uc, .slice fo q.P.length fc, .int .i64 q.tm, .int .i64 q.md, .string q.ms]] w fun e w' => ∃ t, e = .returned (.string t) ∧ (t = ⟨#[]⟩ ∨ (∀ u ∈ q.U, 0 ≤ u ∧ u ≤ 4294967295) ∧ ∀ x ∈ q.P, x.size ≤ 255) ∧ Below w.heap.size w w' := by
  obtain ⟨i0, hi0, hy0, hy1, hy2⟩ := info_parts Tryd.info5
  obtain ⟨k, bx, tt, U, P, tm, md, ms⟩ := q
  obtain ⟨hk1, hk9, hbx, htt, hu, hp, ht0, ht1, hm0, hm1, hms⟩ := h
  simp only at hk1 hk9 hbx htt hu hp ht0 ht1 hm0 hm1 hms hU hP ⊢
  have HU := mkHid hU
  have HP := mkHid hP
  clear hU hP
  obtain ⟨W1, hW1⟩ : ∃ W, w.alloc (.cells #[.int .i64 k, .string bx, .string tt, .slice uo U.length uc, .slice fo P.length fc, .int .i64 tm, .int .i64 md, .string ms] 26) = W := ⟨_, rfl⟩
  have b1 : Below w.heap.size w W1 := by rw [← hW1]; exact (Below.refl _ _).alloc (Nat.le_refl _) _
  have s1 : W1.heap.size = w.heap.size + 1 := by rw [← hW1]; simp
  obtain ⟨Bk, hBk⟩ : ∃ R, R = w.heap.size := ⟨_, rfl⟩
  have HB1 : Hid (W1.heap[Bk]? = some (.cells #[.int .i64 k, .string bx, .string tt, .slice uo U.length uc, .slice fo P.length fc, .int .i64 tm, .int .i64 md, .string ms] 26 (0, 0))) := by rw [← hW1, hBk]; exact hp_alloc _ _
  have HW1 := mkHid hW1
  have Hb1 := mkHid b1
  have HBk := mkHid hBk
  clear hW1 b1 hBk
  obtain ⟨kb, hkb⟩ : ∃ b : UInt8, (b.toNat : Int) = k := ⟨UInt8.ofNat k.toNat, by simp [UInt8.toNat_ofNat']; omega⟩
  have HO2 : Hid (Own W1.heap.size (.slice (some ⟨W1.heap.size, 0, none⟩) 1 1) [kb] (W1.alloc (.cells #[.int .u8 k] 5))) := mkHid ⟨rfl, .inr ⟨W1.heap.size, 1, #[.int .u8 k], rfl, Nat.le_refl _, hp_alloc _ _, Nat.le_refl _, by unfold maxLen; simp, rfl, by simp [byteCells, hkb]⟩⟩
  clear hkb
  obtain ⟨W2, hW2⟩ : ∃ W, W1.alloc (.cells #[.int .u8 k] 5) = W := ⟨_, rfl⟩
  have HW2 := mkHid hW2
  have Hb2 : Hid (Below W1.heap.size W1 W2) := by rw [← hW2]; exact (Below.refl _ _).alloc (Nat.le_refl _) _
  rw [hW2] at HO2
  clear hW2
  rw [s1] at HO2 Hb2
  have s2 : W1.heap.size = Bk + 1 := by rw [HBk.out]; exact s1
  have hlt : Bk < w.heap.size + 1 := by rw [HBk.out]; omega
  go_enter Tryd.func5, Tryd.ntmps5
  go_wp2_with fail
  rw [HW1.out, HW2.out]
  rw [← HBk.out] at HO2 Hb2 hlt ⊢
  have HB2 : Hid (W2.heap[Bk]? = some (.cells #[.int .i64 k, .string bx, .string tt, .slice uo U.length uc, .slice fo P.length fc, .int .i64 tm, .int .i64 md, .string ms] 26 (0, 0))) := (Hb2.out.block Bk hlt).trans HB1.out
  refine (srcShort (Bk + 1) _ _ bx W2 HO2.out (Nat.le_trans (Nat.le_of_eq s2.symm) Hb2.out.size) (by simp) (by omega)).mono ?_
  rintro e W3 ⟨v3, q3, rfl, hO3, hl3, hb3⟩
  have HO3 := mkHid hO3
  have Hb3 := mkHid (Hb2.out.trans hb3)
  have HB3 : Hid (W3.heap[Bk]? = some (.cells #[.int .i64 k, .string bx, .string tt, .slice uo U.length uc, .slice fo P.length fc, .int .i64 tm, .int .i64 md, .string ms] 26 (0, 0))) := (Hb3.out.block Bk hlt).trans HB1.out
  clear hO3 hb3 HO2 HB2 Hb2
  have x2 : W3.cell? ⟨Bk, 2, none⟩ = some (.string tt) := by simp [World.cell?, HB3.out]
  go_wp2_with fail
  refine (srcShort (Bk + 1) _ _ tt W3 HO3.out (Nat.le_trans (Nat.le_of_eq s2.symm) Hb3.out.size) (by simp at hl3; omega) (by omega)).mono ?_
  rintro e W4 ⟨v4, q4, rfl, hO4, hl4, hb4⟩
  have HO4 := mkHid hO4
  have Hb4 := mkHid (Hb3.out.trans hb4)
  have HB4 : Hid (W4.heap[Bk]? = some (.cells #[.int .i64 k, .string bx, .string tt, .slice uo U.length uc, .slice fo P.length fc, .int .i64 tm, .int .i64 md, .string ms] 26 (0, 0))) := (Hb4.out.block Bk hlt).trans HB1.out
  clear hO4 hb4 HO3 HB3 Hb3 x2
  have x2 : W4.cell? ⟨Bk, 3, none⟩ = some (.slice uo U.length uc) := by simp [World.cell?, HB4.out]
  go_wp2_with fail
  refine (srcPut (Bk + 1) _ _ U.length 2 W4 HO4.out (Nat.le_trans (Nat.le_of_eq s2.symm) Hb4.out.size) (by simp at hl3 hl4; omega) (by omega) (by omega)).mono ?_
  rintro e W5 ⟨v5, q5, rfl, hO5, hl5, hb5⟩
  have HO5 := mkHid hO5
  have Hb5 := mkHid (Hb4.out.trans hb5)
  have HB5 : Hid (W5.heap[Bk]? = some (.cells #[.int .i64 k, .string bx, .string tt, .slice uo U.length uc, .slice fo P.length fc, .int .i64 tm, .int .i64 md, .string ms] 26 (0, 0))) := (Hb5.out.block Bk hlt).trans HB1.out
  clear hO5 hb5 HO4 HB4 Hb4 x2
  have x2 : W5.cell? ⟨Bk, 3, none⟩ = some (.slice uo U.length uc) := by simp [World.cell?, HB5.out]
  have hq5 : q5.length ≤ 600 := by simp at hl3 hl4 hl5; omega
  clear hl3 hl4 hl5 x2
  have hkeep : Hid (∀ W', Below (Bk + 1) W1 W' → W'.heap[Bk]? = some (.cells #[.int .i64 k, .string bx, .string tt, .slice uo U.length uc, .slice fo P.length fc, .int .i64 tm, .int .i64 md, .string ms] 26 (0, 0))) := mkHid fun W' hb => (hb.block Bk hlt).trans HB1.out
  have hBw : Hid (∀ W', Below (Bk + 1) W1 W' → Bk + 1 ≤ W'.heap.size) := mkHid fun W' hb => Nat.le_trans (Nat.le_of_eq s2.symm) hb.size
  have HUr : Hid (∀ W', Below (Bk + 1) W1 W' → ∀ j (hj : j < U.length), ∃ g, uo = some ⟨g, 0, none⟩ ∧ W'.cell? ⟨g, j, none⟩ = some (.int .i64 U[j])) := mkHid (by
    intro W' hb j hj
    obtain ⟨g, h1, h2, h3⟩ := HU.out j hj
    have hg : g < Bk := by rw [HBk.out]; exact h2
    exact ⟨g, h1, (World.cell?_of_block (a := ⟨g, j, none⟩) (hb.block g (show g < Bk + 1 by omega))).trans ((World.cell?_of_block (a := ⟨g, j, none⟩) (Hb1.out.block g (by rw [← HBk.out]; exact hg))).trans h3)⟩)
  have HPr : Hid (∀ W', Below (Bk + 1) W1 W' → ∀ j (hj : j < P.length), ∃ g, fo = some ⟨g, 0, none⟩ ∧ W'.cell? ⟨g, j, none⟩ = some (.string P[j])) := mkHid (by
    intro W' hb j hj
    obtain ⟨g, h1, h2, h3⟩ := HP.out j hj
    have hg : g < Bk := by rw [HBk.out]; exact h2
    exact ⟨g, h1, (World.cell?_of_block (a := ⟨g, j, none⟩) (hb.block g (show g < Bk + 1 by omega))).trans ((World.cell?_of_block (a := ⟨g, j, none⟩) (Hb1.out.block g (by rw [← HBk.out]; exact hg))).trans h3)⟩)
  have hfin : Hid (∀ W', Below (Bk + 1) W1 W' → Below w.heap.size w W') := mkHid fun W' hb => Hb1.out.trans (hb.mono (by rw [HBk.out]; omega))
  clear HB5 HB1 HW1 HW2 HU HP hlt
  go_wp2
  go_loopw [3, 4] (fun bv iv wr => ∃ (i : Nat) (q : List UInt8), i ≤ U.length ∧ iv = .int .i64 i ∧ Hid (∀ j (hj : j < U.length), j < i → 0 ≤ U[j] ∧ U[j] ≤ 4294967295) ∧ q.length ≤ 600 + 4 * i ∧ Hid (Own (Bk + 1) bv q wr) ∧ Hid (Below (Bk + 1) W1 wr)) (fun _ iv _ => U.length - (Lib.intOf iv).toNat)
  case atStart => exact ⟨0, q5, Nat.zero_le _, rfl, mkHid (fun j _ h => by omega), by omega, HO5, Hb5⟩
  case round =>
    clear HO5 Hb5 hq5
    obtain ⟨i, q, hi, rfl, HUi, hq, HO, Hb⟩ := hrel
    have hBr := hBw.out wr Hb.out
    have x2 : wr.cell? ⟨Bk, 3, none⟩ = some (.slice uo U.length uc) := by simp [World.cell?, hkeep.out wr Hb.out]
    by_cases hlt : i < U.length
    · have hlti : (i : Int) < (U.length : Int) := by omega
      obtain ⟨g, rfl, hc⟩ := HUr.out wr Hb.out i hlt
      have hadd := add_off g i
      obtain ⟨u, hu0⟩ : ∃ u, U[i] = u := ⟨_, rfl⟩
      rw [hu0] at hc
      have Hu0 := mkHid hu0
      clear hu0
      by_cases hneg : u < 0
      · go_wp2
        go_ret
        exact ⟨_, rfl, .inl rfl, hfin.out _ Hb.out⟩
      by_cases hbig : 4294967295 < u
      · go_wp2
        go_ret
        exact ⟨_, rfl, .inl rfl, hfin.out _ Hb.out⟩
      obtain ⟨m, hm⟩ : ∃ m : Nat, u = m := ⟨u.toNat, by omega⟩
      have HUi2 : Hid (∀ j (hj : j < U.length), j < i + 1 → 0 ≤ U[j] ∧ U[j] ≤ 4294967295) := mkHid (by
        intro j hj hji
        by_cases e : j = i
        · subst e; rw [Hu0.out]; omega
        · exact HUi.out j hj (by omega))
      subst hm
      have c4 := mkHid (srcPut (Bk + 1) u3 q m 4 wr HO.out hBr (by omega) (by omega) (by omega))
      clear HUi Hu0
      go_wp2_with fail
      refine c4.out.mono ?_
      rintro e W6 ⟨v6, q6, rfl, hO6, hl6, hb6⟩
      have HO6 := mkHid hO6
      have Hb6 := mkHid (Hb.out.trans hb6)
      have hq6 : q6.length ≤ 600 + 4 * (i + 1) := by omega
      clear hO6 hb6 hl6 HO Hb c4
      go_wp2
      go_roundw
      case rel => exact ⟨i + 1, q6, by omega, by go_num, HUi2, hq6, HO6, Hb6⟩
      case measure => simp [Lib.intOf]; omega
    · skip
      have hlti : ¬ (i : Int) < (U.length : Int) := by omega
      have HUa : Hid (∀ u ∈ U, 0 ≤ u ∧ u ≤ 4294967295) := mkHid (by
        intro u hu
        obtain ⟨j, hj, rfl⟩ := List.getElem_of_mem hu
        exact HUi.out j hj (by omega))
      have hq9 : q.length ≤ 2000 := by omega
      clear HUi hq HUr
      have x5 : (wr.alloc (.cells #[.int .u8 (P.length : Int)] 5)).cell? ⟨Bk, 4, none⟩ = some (.slice fo P.length fc) := by
        have h := hkeep.out (wr.alloc (.cells #[.int .u8 (P.length : Int)] 5)) (Hb.out.alloc hBr _)
        simp [World.cell?, h]
      have x6 : wr.cell? ⟨Bk, 4, none⟩ = some (.slice fo P.length fc) := by simp [World.cell?, hkeep.out wr Hb.out]
      have hby : Hid ([Value.int IntKind.u8 (P.length : Int)] = byteCells [UInt8.ofNat P.length]) := mkHid (by simp [byteCells, UInt8.toNat_ofNat']; omega)
      go_wp2_with (at_builtin; go_must (refine wp_appG (w := wr) rfl _ _ 22 rfl i0 Tryd.underlying22 hi0 hy0 hy1 hy2 (Bk + 1) u3 q rfl HO.out _ [UInt8.ofNat P.length] hby.out 1 1 rfl rfl (by simp; omega) hBr ?_; intro v7 W7 hO7 hG7; refine Hid.out ?_))
      have hA7 : Own (Bk + 1) u3 q (wr.alloc (.cells #[.int .u8 (P.length : Int)] 5)) := World.ownsRow.alloc HO.out _
      have HO7 := mkHid hO7
      have Hb7 : Hid (Below (Bk + 1) W1 W7) := mkHid ((Hb.out.alloc hBr _).grown hG7 (by simp; omega) (fun k hk => (World.ownsRow.lt hA7 k hk).1))
      have hq7 : (q ++ [UInt8.ofNat P.length]).length ≤ 2001 := by simp; omega
      generalize q ++ [UInt8.ofNat P.length] = q7 at hq7 HO7
      clear hO7 hG7 hA7 HO Hb hby x2 x5 x6 hq9
      refine mkHid ?_
      go_wp2
      go_loopw [3, 5] (fun bv iv wr => ∃ (i : Nat) (q : List UInt8), i ≤ P.length ∧ iv = .int .i64 i ∧ Hid (∀ j (hj : j < P.length), j < i → P[j].size ≤ 255) ∧ q.length ≤ 2001 + 256 * i ∧ Hid (Own (Bk + 1) bv q wr) ∧ Hid (Below (Bk + 1) W1 wr)) (fun _ iv _ => P.length - (Lib.intOf iv).toNat)
      case atStart => exact ⟨0, q7, Nat.zero_le _, rfl, mkHid (fun j _ h => by omega), by omega, HO7, Hb7⟩
      case round =>
        clear HO7 Hb7 hq7 hBr
        obtain ⟨i, q, hi, rfl, HPi, hq, HO, Hb⟩ := hrel
        have hBr := hBw.out wr Hb.out
        have x2 : wr.cell? ⟨Bk, 4, none⟩ = some (.slice fo P.length fc) := by simp [World.cell?, hkeep.out wr Hb.out]
        by_cases hlt : i < P.length
        · have hlti : (i : Int) < (P.length : Int) := by omega
          obtain ⟨g, rfl, hc⟩ := HPr.out wr Hb.out i hlt
          have hadd := add_off g i
          obtain ⟨u, hu0⟩ : ∃ u, P[i] = u := ⟨_, rfl⟩
          rw [hu0] at hc
          have Hu0 := mkHid hu0
          clear hu0
          by_cases hbig : (255 : Int) < (u.size : Int)
          · go_wp2
            go_ret
            exact ⟨_, rfl, .inl rfl, hfin.out _ Hb.out⟩
          have HPi2 : Hid (∀ j (hj : j < P.length), j < i + 1 → P[j].size ≤ 255) := mkHid (by
            intro j hj hji
            by_cases e : j = i
            · subst e; rw [Hu0.out]; omega
            · exact HPi.out j hj (by omega))
          have c4 := mkHid (srcShort (Bk + 1) u3 q u wr HO.out hBr (by omega) (by omega))
          clear HPi Hu0
          go_wp2_with fail
          refine c4.out.mono ?_
          rintro e W6 ⟨v6, q6, rfl, hO6, hl6, hb6⟩
          have HO6 := mkHid hO6
          have Hb6 := mkHid (Hb.out.trans hb6)
          have hq6 : q6.length ≤ 2001 + 256 * (i + 1) := by omega
          clear hO6 hb6 hl6 HO Hb c4
          go_wp2
          go_roundw
          case rel => exact ⟨i + 1, q6, by omega, by go_num, HPi2, hq6, HO6, Hb6⟩
          case measure => simp [Lib.intOf]; omega
        · skip
          have hlti : ¬ (i : Int) < (P.length : Int) := by omega
          have HPa : Hid (∀ x ∈ P, x.size ≤ 255) := mkHid (by
            intro u hu
            obtain ⟨j, hj, rfl⟩ := List.getElem_of_mem hu
            exact HPi.out j hj (by omega))
          have hq9 : q.length ≤ 70000 := by omega
          clear HPi hq HPr
          obtain ⟨tn, htn⟩ : ∃ m : Nat, tm = m := ⟨tm.toNat, by omega⟩
          obtain ⟨mn, hmn⟩ : ∃ m : Nat, md = m := ⟨md.toNat, by omega⟩
          subst htn hmn
          have y5 : wr.cell? ⟨Bk, 5, none⟩ = some (.int .i64 tn) := by simp [World.cell?, hkeep.out wr Hb.out]
          go_wp2_with fail
          refine (srcPut (Bk + 1) u3 q tn 5 wr HO.out hBr (by omega) (by omega) (by omega)).mono ?_
          rintro e W8 ⟨v8, q8, rfl, hO8, hl8, hb8⟩
          have HO8 := mkHid hO8
          have Hb8 := mkHid (Hb.out.trans hb8)
          have hB8 := hBw.out W8 Hb8.out
          clear hO8 hb8 HO Hb y5
          have y5 : W8.cell? ⟨Bk, 6, none⟩ = some (.int .i64 mn) := by simp [World.cell?, hkeep.out W8 Hb8.out]
          go_wp2_with fail
          refine (srcPut (Bk + 1) v8 q8 mn 4 W8 HO8.out hB8 (by omega) (by omega) (by omega)).mono ?_
          rintro e W9 ⟨v9, q9, rfl, hO9, hl9, hb9⟩
          have HO9 := mkHid hO9
          have Hb9 := mkHid (Hb8.out.trans hb9)
          have hB9 := hBw.out W9 Hb9.out
          clear hO9 hb9 HO8 Hb8 hB8 y5
          have y5 : W9.cell? ⟨Bk, 7, none⟩ = some (.string ms) := by simp [World.cell?, hkeep.out W9 Hb9.out]
          go_wp2_with fail
          refine (srcPut (Bk + 1) v9 q9 ms.size 3 W9 HO9.out hB9 (by omega) (by omega) (by omega)).mono ?_
          rintro e W10 ⟨v10, q10, rfl, hO10, hl10, hb10⟩
          have HO10 := mkHid hO10
          have Hb10 := mkHid (Hb9.out.trans hb10)
          have hB10 := hBw.out W10 Hb10.out
          clear hO10 hb10 HO9 Hb9 hB9 y5
          have y5 : W10.cell? ⟨Bk, 7, none⟩ = some (.string ms) := by simp [World.cell?, hkeep.out W10 Hb10.out]
          go_wp2_with (at_builtin; go_must (refine wp_appsG (w := W10) rfl _ _ 22 9 rfl i0 Tryd.underlying22 Tryd.underlying9 hi0 hy0 hy1 hy2 (Bk + 1) v10 q10 rfl HO10.out ms rfl (by omega) hB10 ?_; intro v11 W11 hO11 hG11; refine Hid.out ?_))
          have hb11 : Below (Bk + 1) W1 W11 := Hb10.out.grown hG11 hB10 (fun k hk => (World.ownsRow.lt HO10.out k hk).1)
          have hbk := hO11.back (P := Tryd.prog) 22 9 Tryd.underlying22 Tryd.underlying5 Tryd.underlying9
          refine mkHid ?_
          go_wp2
          go_ret
          exact ⟨_, rfl, .inr ⟨HUa.out, HPa.out⟩, hfin.out _ hb11⟩
end Go.Proofs.YtillilllceeonaaDoor
namespace Go.Proofs.YtillilllceeonaaDoor
open Go.RowKit Go.Lib Go.Maps
/-- The k last bytes of n, the greatest first. -/
def be : Nat → Nat → List UInt8
  | 0, _ => []
  | k + 1, n => UInt8.ofNat (n / 2 ^ (8 * k)) :: be k n
set_option maxRecDepth 20000 in
theorem be_len : ∀ k n, (be k n).length = k
  | 0, _ => rfl
  | k + 1, n => by rw [be, List.length_cons, be_len k n]
/-- The encoder at block g has the bytes p, in the slice v among the blocks from B on. -/
structure Enc (g B : Nat) (v : Value) (p : List UInt8) (w : World) : Prop where
  blk : w.heap[g]? = some (.cells #[v, .nilIface] 44 (0, 0))
  own : Own B v p w
  lt : g < B
  bs : B ≤ w.heap.size
/-- Nothing but block g and the row r has changed. -/
structure Wk (g : Nat) (r : Option Nat) (w w' : World) : Prop where
  os : w'.os = w.os
  tape : w'.tape = w.tape
  output : w'.output = w.output
  size : w.heap.size ≤ w'.heap.size
  keep : ∀ k, k < w.heap.size → k ≠ g → some k ≠ r → w'.heap[k]? = w.heap[k]?
def Nv (w : World) (v v' : Value) : Prop := v'.ownBlock = v.ownBlock ∨ ∃ k, w.heap.size ≤ k ∧ v'.ownBlock = some k
set_option maxRecDepth 20000 in
theorem Wk.refl (g : Nat) (r : Option Nat) (w : World) : Wk g r w w := ⟨rfl, rfl, rfl, Nat.le_refl _, fun _ _ _ _ => rfl⟩
set_option maxRecDepth 20000 in
theorem Wk.trans {g : Nat} {v v1 : Value} {w w1 w2 : World} (h : Wk g v.ownBlock w w1) (hn : Nv w v v1) (h2 : Wk g v1.ownBlock w1 w2) : Wk g v.ownBlock w w2 := by
  refine ⟨h2.os.trans h.os, h2.tape.trans h.tape, h2.output.trans h.output, Nat.le_trans h.size h2.size, fun k hk hg hr => (h2.keep k (Nat.lt_of_lt_of_le hk h.size) hg ?_).trans (h.keep k hk hg hr)⟩
  rcases hn with e | ⟨q, hq, e⟩
  · rw [e]; exact hr
  · rw [e]
    intro e2
    simp only [Option.some.injEq] at e2
    omega
set_option maxRecDepth 20000 in
theorem Nv.trans {w w1 : World} {v v1 v2 : Value} (h : Nv w v v1) (hs : w.heap.size ≤ w1.heap.size) (h2 : Nv w1 v1 v2) : Nv w v v2 := by
  rcases h2 with e | ⟨k, hk, e⟩
  · rcases h with e1 | ⟨q, hq, e1⟩
    · exact .inl (e.trans e1)
    · exact .inr ⟨q, hq, e.trans e1⟩
  · exact .inr ⟨k, by omega, e⟩
/-- The blocks below B but g are as they were. -/
structure Fr (g B : Nat) (w w' : World) : Prop where
  os : w'.os = w.os
  tape : w'.tape = w.tape
  output : w'.output = w.output
  size : w.heap.size ≤ w'.heap.size
  keep : ∀ k, k < B → k ≠ g → w'.heap[k]? = w.heap[k]?
set_option maxRecDepth 20000 in
theorem Fr.refl (g B : Nat) (w : World) : Fr g B w w := ⟨rfl, rfl, rfl, Nat.le_refl _, fun _ _ _ => rfl⟩
set_option maxRecDepth 20000 in
theorem Fr.trans {g B : Nat} {w w1 w2 : World} (h : Fr g B w w1) (h2 : Fr g B w1 w2) : Fr g B w w2 := ⟨h2.os.trans h.os, h2.tape.trans h.tape, h2.output.trans h.output, Nat.le_trans h.size h2.size, fun k hk hg => (h2.keep k hk hg).trans (h.keep k hk hg)⟩
set_option maxRecDepth 20000 in
theorem Fr.of_below {g B : Nat} {w w' : World} (h : Below w.heap.size w w') (hB : B ≤ w.heap.size) : Fr g B w w' := ⟨h.os, h.tape, h.output, h.size, fun k hk _ => h.block k (by omega)⟩
set_option maxRecDepth 20000 in
theorem Wk.fr {g B : Nat} {v : Value} {p : List UInt8} {w w' : World} (h : Wk g v.ownBlock w w') (hE : Enc g B v p w) : Fr g B w w' :=
  ⟨h.os, h.tape, h.output, h.size, fun k hk hg => h.keep k (Nat.lt_of_lt_of_le hk hE.bs) hg (fun e => by have := (World.ownsRow.lt hE.own k e.symm).1; omega)⟩
set_option maxRecDepth 20000 in
theorem Enc.below {g B : Nat} {v : Value} {p : List UInt8} {w w' : World} (h : Enc g B v p w) (hb : Below w.heap.size w w') : Enc g B v p w' :=
  ⟨(hb.block g (Nat.lt_of_lt_of_le h.lt h.bs)).trans h.blk, h.own.belowG hb, h.lt, Nat.le_trans h.bs hb.size⟩
set_option maxRecDepth 20000 in
/-- An append of bytes, in a drawn region. -/
theorem opAppBy {w : World} {o : Oper} {a : Act} {K : Act → World → Prop} {Q : Exit → Act → World → Prop} (s x : Operand)
    (ho : o.op = .call { callee := .builtin .append, args := #[s, x], argTypes := #[22, 22] })
    (B : Nat) (v : Value) (p : List UInt8) (hs : a.eval s = v) (hown : Own B v p w) (u : UInt8) (g c : Nat) (hx : a.eval x = .slice (some ⟨g, 0, none⟩) 1 c) (hnew : w.cell? ⟨g, 0, none⟩ = some (.int .u8 (u.toNat : Int))) (hlen : p.length ≤ 1000000) (hB : B ≤ w.heap.size)
    (h : ∀ v' w', Own B v' (p ++ [u]) w' → w.grownBy w' v.ownBlock → Nv w v v' → K (a.put o.dst v') w') : o.wp Tryd.prog a w K Q := by
  obtain ⟨i0, hi0, hz0, hz1, hz2⟩ := info_parts Tryd.info5
  unfold Own at hown
  obtain ⟨v', w', hr, h2, h3, h4, h5⟩ := run_append_own_at (P := Tryd.prog) w B 22 o.type 5 i0 (.int .u8 0) 1 1 Tryd.underlying22 hi0 hz0 hz1 hz2 rfl (by decide) v p.length (byteCells p) hown ⟨g, 0, none⟩ 1 c [.int .u8 (u.toNat : Int)] rfl (by
    intro j y hj
    match j, hj with
    | 0, hj => simp at hj; subst hj; simpa [Addr.add] using hnew) (by
    intro y hy
    simp at hy
    subst hy
    rfl) (by unfold maxLen; omega) (by omega) hB
  unfold Oper.wp execOp
  simp only [ho, resolve, invoke, builtin, Sem.run_bind, Sem.run_pure, Result.andThen_ok, List.map_toArray, List.map_cons, List.map_nil, hs, hx, hr]
  refine h v' w' ?_ h3 (by rcases h5 with e | e; exact .inl e; exact .inr ⟨_, Nat.le_refl _, e⟩)
  unfold Own
  rw [byteCells_append, List.length_append]
  exact h2
set_option maxRecDepth 20000 in
/-- An append of a text, in a drawn region. -/
theorem opAppTx {w : World} {o : Oper} {a : Act} {K : Act → World → Prop} {Q : Exit → Act → World → Prop} (s x : Operand)
    (ho : o.op = .call { callee := .builtin .append, args := #[s, x], argTypes := #[22, 9] })
    (B : Nat) (v : Value) (p : List UInt8) (hs : a.eval s = v) (hown : Own B v p w) (news : ByteArray) (hx : a.eval x = .string news) (hlen : p.length + news.size ≤ 140737488355328) (hB : B ≤ w.heap.size)
    (h : ∀ v' w', Own B v' (p ++ news.data.toList) w' → w.grownBy w' v.ownBlock → K (a.put o.dst v') w') : o.wp Tryd.prog a w K Q := by
  obtain ⟨i0, hi0, hz0, hz1, hz2⟩ := info_parts Tryd.info5
  obtain ⟨v', w', hr, h2, h3, h4⟩ := run_append_own_string (P := Tryd.prog) w B 22 9 o.type 5 i0 Tryd.underlying22 Tryd.underlying9 hi0 hz0 hz1 hz2 v p.length (byteCells p) hown news (by unfold maxLen; omega) hlen hB
  unfold Oper.wp execOp
  simp only [ho, resolve, invoke, builtin, Sem.run_bind, Sem.run_pure, Result.andThen_ok, List.map_toArray, List.map_cons, List.map_nil, hs, hx, hr]
  refine h v' w' ?_ h3
  unfold Own
  rw [byteCells_append, List.length_append]
  exact h2
set_option maxRecDepth 20000 in
theorem ownShape {B : Nat} {v : Value} {p : List UInt8} {w : World} (h : Own B v p w) : ∃ o m cap, v = .slice o m cap := by
  rcases h.2 with ⟨rfl, h0⟩ | ⟨g, cap, cur, rfl, -⟩
  · exact ⟨none, 0, 0, rfl⟩
  · exact ⟨_, _, cap, rfl⟩
set_option maxRecDepth 20000 in
/-- What a store into the encoder's own block leaves. -/
theorem Enc.stored {g B : Nat} {v v' : Value} {p p' : List UInt8} {w w' : World} (h : Enc g B v p w) (hO : Own B v' p' w') (hg : w.grownBy w' v.ownBlock) : Enc g B v' p' (w'.setCell ⟨g, 0, none⟩ v') ∧ Wk g v.ownBlock w (w'.setCell ⟨g, 0, none⟩ v') := by
  have hgl : g < w.heap.size := Nat.lt_of_lt_of_le h.lt h.bs
  have hne : some g ≠ v.ownBlock := fun e => by have := (World.ownsRow.lt h.own g e.symm).1; have := h.lt; omega
  have hbg : w'.heap[g]? = some (.cells #[v, .nilIface] 44 (0, 0)) := (hg.block g hgl hne).trans h.blk
  have hgl' : g < w'.heap.size := Nat.lt_of_lt_of_le hgl hg.size
  have hS := grG_set w' g 0 v'
  refine ⟨⟨?_, row_stay hO fun k hk => hS.block k (World.ownsRow.lt hO k hk).2 (fun e => by have := (World.ownsRow.lt hO k hk).1; have := h.lt; cases e; omega), h.lt, Nat.le_trans h.bs (Nat.le_trans hg.size hS.size)⟩, ⟨hS.os.trans hg.os, hS.tape.trans hg.tape, hS.output.trans hg.output, Nat.le_trans hg.size hS.size, fun k hk hkg hr => (hS.block k (Nat.lt_of_lt_of_le hk hg.size) (fun e => hkg (by simpa using e))).trans (hg.block k hk hr)⟩⟩
  simp [World.setCell, Array.getElem?_modify, hbg]
set_option maxRecDepth 20000 in
/-- Within the bounds. -/
theorem implFromIn (z a b : Int) (w : World) (h1 : a ≤ z) (h2 : z ≤ b) : Calls Tryd.prog 98 #[.int .i64 z, .int .i64 a, .int .i64 b] w fun e w' => e = .returned (.bool true) ∧ w = w' := by
  go_enter Tryd.func98, Tryd.ntmps98
  go_wp2
  go_ret
  exact ⟨rfl, rfl⟩
end Go.Proofs.YtillilllceeonaaDoor
