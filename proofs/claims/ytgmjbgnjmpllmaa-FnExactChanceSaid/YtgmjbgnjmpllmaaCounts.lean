
/- Lists of words with their counts, and tables of them: handed in, made anew, held against one another. -/
import Derived.Test.YtgmjbgnjmpllmaaCells
import Derived.Test.YtgmjbgnjmpllmaaTexts
import Derived.Deep.OwnRows
import Derived.Lib.QuietBelow
import Derived.Deep.QuietTactic
import Derived.BigQuiet
namespace Go.Proofs.Ytgmjbgnjmpllmaa
open Go.RowKit Go.Lib Go.Maps
theorem mkHw {p : Prop} (h : p) : Hid p := h
structure Wc where
  word : ByteArray
  good : Int
  bad : Int
structure WcAt (w : World) (A : Addr) (c : Wc) : Prop where
  c0 : w.cell? A = some (.string c.word)
  c1 : w.cell? ⟨A.block, A.off + 1, none⟩ = some (.int .i64 c.good)
  c2 : w.cell? ⟨A.block, A.off + 2, none⟩ = some (.int .i64 c.bad)
theorem WcAt.below {B : Nat} {w w' : World} {A : Addr} {c : Wc} (h : WcAt w A c) (hb : Below B w w') (hA : A.block < B) : WcAt w' A c :=
  ⟨(hb.cell hA).trans h.c0, (hb.cell (p := ⟨A.block, A.off + 1, none⟩) hA).trans h.c1, (hb.cell (p := ⟨A.block, A.off + 2, none⟩) hA).trans h.c2⟩
theorem add_blockW (a : Addr) (n : Nat) : (a.add n).block = a.block := by unfold Addr.add; split <;> rfl
def Wcs (B : Nat) (w : World) (o : Option Addr) (F : List Wc) : Prop := ∀ i (h : i < F.length), ∃ a, o = some a ∧ a.block < B ∧ WcAt w (a.add (i * 3)) F[i]
theorem Wcs.below {B : Nat} {w w' : World} {o : Option Addr} {F : List Wc} (h : Wcs B w o F) (hb : Below B w w') : Wcs B w' o F := by
  intro i hi
  obtain ⟨a, ho, ha, h1⟩ := h i hi
  exact ⟨a, ho, ha, h1.below hb (by rw [add_blockW]; exact ha)⟩
theorem Wcs.mono {B B' : Nat} {w : World} {o : Option Addr} {F : List Wc} (h : Wcs B w o F) (hB : B ≤ B') : Wcs B' w o F := by
  intro i hi
  obtain ⟨a, ho, ha, h1⟩ := h i hi
  exact ⟨a, ho, by omega, h1⟩
def wcV (c : Wc) : Value := .agg #[.string c.word, .int .i64 c.good, .int .i64 c.bad]
def tbV (g b : Int) (v : Value) : Value := .agg #[.int .i64 g, .int .i64 b, v]
set_option maxHeartbeats 1000000 in
theorem lawSzCount (c : Wc) (left : Nat) (w : World) (hf : c.word.size ≤ maxLen) (hl : left ≤ 1048576) :
    Calls Try.prog 17 #[wcV c, .int .i64 left] w fun e w' => ∃ r : Int, e = .returned (.int .i64 r) ∧ Hid (r = -1 ∨ ∃ m : Nat, r = m ∧ m ≤ left ∧ c.word.size ≤ 1048576) ∧ Below w.heap.size w w' := by
  unfold maxLen at hf
  unfold wcV
  by_cases h1 : left < c.word.size
  · go_enter Try.func17, Try.ntmps17
    go_wp2
    go_ret
    exact ⟨-1, rfl, .inl rfl, (Below.refl _ _).alloc (Nat.le_refl _) _⟩
  · obtain ⟨l1, hl1⟩ : ∃ l1 : Nat, left - c.word.size = l1 := ⟨_, rfl⟩
    have hl2 : (left : Int) - (c.word.size : Int) = (l1 : Int) := by omega
    have hr : Hid (l1 ≤ left ∧ c.word.size ≤ 1048576) := ⟨by omega, by omega⟩
    clear hl1
    go_enter Try.func17, Try.ntmps17
    go_wp2
    go_ret
    exact ⟨_, rfl, .inr ⟨l1, rfl, hr.out.1, hr.out.2⟩, (Below.refl _ _).alloc (Nat.le_refl _) _⟩
set_option maxHeartbeats 1000000 in
theorem lawSzCounts (o : Option Addr) (F : List Wc) (cap : Nat) (w : World) (hF : Wcs w.heap.size w o F) (hlen : F.length ≤ maxLen) (hsz : ∀ f ∈ F, f.word.size ≤ maxLen) :
    Calls Try.prog 9 #[.slice o F.length cap, .int .i64 1048576] w fun e w' => ∃ r : Int, e = .returned (.int .i64 r) ∧ Hid (r = -1 ∨ 0 ≤ r ∧ F.length ≤ 1048576 ∧ ∀ f ∈ F, f.word.size ≤ 1048576) ∧ Below w.heap.size w w' := by
  unfold maxLen at hlen
  by_cases hn : 1048576 < F.length
  · clear hF hsz
    go_enter Try.func9, Try.ntmps9
    go_wp2
    go_ret
    exact ⟨-1, rfl, Or.inl rfl, Below.refl _ _⟩
  · have HF : Hid (Wcs w.heap.size w o F) := hF
    have Hsz : Hid (∀ f ∈ F, f.word.size ≤ maxLen) := hsz
    clear hF hsz
    go_enter Try.func9, Try.ntmps9
    go_wp2
    go_loopw [1, 5] (fun l i wr => ∃ (k m : Nat), k ≤ F.length ∧ i = .int .i64 k ∧ m ≤ 1048576 ∧ l = .int .i64 m ∧ Hid (∀ j (h : j < F.length), j < k → F[j].word.size ≤ 1048576) ∧ Below w.heap.size w wr) (fun _ i _ => F.length - (Lib.intOf i).toNat)
    case atStart => exact ⟨0, 1048576 - F.length, Nat.zero_le _, rfl, by omega, by go_num, fun j h h0 => absurd h0 (Nat.not_lt_zero _), Below.refl _ _⟩
    case round =>
      obtain ⟨k, m, hk, rfl, hm, rfl, hall, hb⟩ := hrel
      by_cases hlt : k < F.length
      · obtain ⟨a, rfl, ha, hA⟩ := (HF.out.below hb) k hlt
        have hS := mkHw (lawSzCount F[k] m wr (Hsz.out _ (List.getElem_mem hlt)) hm)
        have c0 := hA.c0
        have c1 := hA.c1
        have c2 := hA.c2
        clear hA
        unfold wcV at hS
        generalize hf : F[k] = f at *
        have Hf := mkHw hf
        clear hf
        go_wp2_with fail
        refine hS.out.mono ?_
        rintro e w1 ⟨r1, rfl, hr1, hb1⟩
        have hb2 := mkHw (hb.trans (hb1.mono hb.size))
        clear hS c0 c1 c2 hb1 hb
        rcases hr1.out with rfl | ⟨m1, rfl, hm1, hft⟩
        · go_wp2
          go_ret
          exact ⟨-1, rfl, Or.inl rfl, hb2.out⟩
        · replace hft := mkHw hft
          clear hr1
          go_wp2
          go_roundw
          case rel =>
            refine ⟨k + 1, m1, by omega, by go_num, by omega, rfl, ?_, hb2.out⟩
            intro j h hj
            by_cases hjk : j < k
            · exact hall.out j h hjk
            · have : j = k := by omega
              subst this
              rw [Hf.out]; exact hft.out
          case measure => simp [Lib.intOf]; omega
      · have Hall : Hid (∀ f ∈ F, f.word.size ≤ 1048576) := by
          intro t ht
          obtain ⟨j, hj, rfl⟩ := List.getElem_of_mem ht
          exact hall.out j hj (by omega)
        go_wp2
        go_ret
        exact ⟨_, rfl, Or.inr ⟨by omega, by omega, Hall.out⟩, hb⟩
set_option maxHeartbeats 1000000 in
theorem lawSzTable (g b : Int) (o : Option Addr) (F : List Wc) (cap : Nat) (w : World) (hF : Wcs w.heap.size w o F) (hlen : F.length ≤ maxLen) (hsz : ∀ f ∈ F, f.word.size ≤ maxLen) :
    Calls Try.prog 4 #[tbV g b (.slice o F.length cap), .int .i64 1048576] w fun e w' => ∃ r : Int, e = .returned (.int .i64 r) ∧ Hid (r = -1 ∨ 0 ≤ r ∧ F.length ≤ 1048576 ∧ ∀ f ∈ F, f.word.size ≤ 1048576) ∧ Below w.heap.size w w' := by
  have hbA : Below w.heap.size w (w.alloc (.cells #[.int .i64 g, .int .i64 b, .slice o F.length cap] 24)) := (Below.refl _ _).alloc (Nat.le_refl _) _
  have hS := mkHw (lawSzCounts o F cap _ ((hF.below hbA).mono hbA.size) hlen hsz)
  replace hbA := mkHw hbA
  clear hF hlen hsz
  unfold tbV
  go_enter Try.func4, Try.ntmps4
  go_wp2_with fail
  refine hS.out.mono ?_
  rintro e w1 ⟨r1, rfl, hr1, hb1⟩
  have hb2 := mkHw (hbA.out.trans (hb1.mono hbA.out.size))
  clear hS hb1 hbA
  rcases hr1.out with rfl | ⟨m1, m2, m3⟩
  · go_wp2
    go_ret
    exact ⟨-1, rfl, .inl rfl, hb2.out⟩
  · obtain ⟨l1, rfl⟩ : ∃ l1 : Nat, r1 = l1 := ⟨r1.toNat, by omega⟩
    replace m3 := mkHw m3
    clear hr1
    go_wp2
    go_ret
    exact ⟨_, rfl, .inr ⟨m1, m2, m3.out⟩, hb2.out⟩
set_option maxHeartbeats 1000000 in
theorem lawToCount (c : Wc) (w : World) : Calls Try.prog 20 #[wcV c] w fun e w' => e = .returned (wcV c) ∧ Below w.heap.size w w' := by
  unfold wcV
  go_enter Try.func20, Try.ntmps20
  go_wp2
  refine bodyPost_ret (v := .agg #[.string c.word, .int .i64 c.good, .int .i64 c.bad]) (by simp [results, Try.results20, go_sem]) rfl ⟨rfl, ?_⟩
  exact (((Below.refl _ _).alloc (Nat.le_refl _) _).alloc (by simp) _).alloc (by simp; omega) _
structure L3 (f : Nat → Value) (j : Nat) (c : Wc) : Prop where
  c0 : f (j * 3) = .string c.word
  c1 : f (j * 3 + 1) = .int .i64 c.good
  c2 : f (j * 3 + 2) = .int .i64 c.bad
def set3 (w : World) (g k : Nat) (c : Wc) : World := ((w.setCell ⟨g, k * 3, none⟩ (.string c.word)).setCell ⟨g, k * 3 + 1, none⟩ (.int .i64 c.good)).setCell ⟨g, k * 3 + 2, none⟩ (.int .i64 c.bad)
theorem row3 {w : World} {g t N : Nat} {f : Nat → Value} (h : w.rowIs g t N f) (k : Nat) (c : Wc) : ∃ f', (set3 w g k c).rowIs g t N f' ∧ L3 f' k c ∧ ∀ j m, j ≠ k → L3 f j m → L3 f' j m := by
  refine ⟨_, ((h.set _ _).set _ _).set _ _, ?_, ?_⟩
  · constructor <;> simp
  · intro j m hj hl
    obtain ⟨c0, c1, c2⟩ := hl
    constructor <;> rw [if_neg (by omega), if_neg (by omega), if_neg (by omega)] <;> assumption
theorem Try.infoW : (Try.prog.info? 47).map (fun i => (i.zero, i.size, i.bytes)) = some (some (.agg #[.string ⟨#[]⟩, .int .i64 0, .int .i64 0]), 3, 32) := by kernel_rfl
set_option maxHeartbeats 2000000 in
set_option maxRecDepth 20000 in
theorem lawToCounts (o : Option Addr) (F : List Wc) (cap : Nat) (w : World) (hF : Wcs w.heap.size w o F) (hlen : F.length ≤ 1048576) :
    Calls Try.prog 12 #[.slice o F.length cap] w fun e w' => e = .returned (.slice (some ⟨w.heap.size, 0, none⟩) F.length F.length) ∧ Hid (Wcs w'.heap.size w' (some ⟨w.heap.size, 0, none⟩) F) ∧ Below w.heap.size w w' := by
  obtain ⟨i0, hi, hy0, hy1, hy2⟩ := info_parts Try.infoW
  have hmk := run_make (P := Try.prog) w 27 47 i0 _ Try.underlying27 hi hy0 .i64 .i64 F.length F.length (by omega) (Int.le_refl _) (by rw [hy2]; omega) (by omega)
  simp only [Int.toNat_natCast, hy1] at hmk
  have HF : Hid (Wcs w.heap.size w o F) := hF
  clear hF
  obtain ⟨c0, hc0⟩ : ∃ c0, c0 = madeCells (Value.cells (.agg #[.string ⟨#[]⟩, .int .i64 0, .int .i64 0])) (F.length * 3) := ⟨_, rfl⟩
  have hcs : c0.size = F.length * 3 := by rw [hc0]; exact size_madeCells _ _
  rw [← hc0] at hmk
  have Hrow0 : Hid (∃ f, (w.alloc (.cells c0 47)).rowIs w.heap.size 47 (F.length * 3) f) := by
    refine ⟨fun j => c0[j]!, ?_⟩
    have := World.rowIs_alloc w c0 47 (fun j => c0[j]!) (fun i hi => by simp [hi])
    rw [hcs] at this
    exact this
  clear hc0 hcs
  go_enter Try.func12, Try.ntmps12
  go_wp2
  clear hmk
  generalize hG : w.heap.size = G at *
  go_loopw [4] (fun i wr => ∃ (k : Nat) (f : Nat → Value), k ≤ F.length ∧ i = .int .i64 k ∧ wr.rowIs G 47 (F.length * 3) f ∧ Hid (∀ j (h : j < F.length), j < k → L3 f j F[j]) ∧ Below G w wr) (fun i _ => F.length - (Lib.intOf i).toNat)
  case atStart =>
    obtain ⟨f, hx⟩ := Hrow0.out
    exact ⟨0, f, Nat.zero_le _, rfl, hx, fun j h h0 => absurd h0 (Nat.not_lt_zero _), (Below.refl _ _).alloc (by omega) _⟩
  case round =>
    clear Hrow0
    obtain ⟨k, f, hk, rfl, hrow, hall, hb⟩ := hrel
    by_cases hlt : k < F.length
    · obtain ⟨a, rfl, ha, hA⟩ := (HF.out.below hb) k hlt
      have hGl := hrow.lt
      have hT := mkHw (lawToCount F[k] wr)
      have c0 := hA.c0
      have c1 := hA.c1
      have c2 := hA.c2
      clear hA
      generalize hf : F[k] = n at *
      have Hf := mkHw hf
      clear hf
      unfold wcV at hT
      go_wp2_with fail
      refine hT.out.mono ?_
      rintro e w1 ⟨rfl, hb1⟩
      have hrow1 : w1.rowIs G 47 (F.length * 3) f := hrow.of_block (hb1.block G hGl)
      obtain ⟨f', hrow2, hL, hLo⟩ := row3 hrow1 k n
      have hb2 : Below G w (set3 w1 G k n) := (((hb.trans (hb1.mono (by omega))).setCell (p := ⟨G, k * 3, none⟩) (Nat.le_refl _) _).setCell (p := ⟨G, k * 3 + 1, none⟩) (Nat.le_refl _) _).setCell (p := ⟨G, k * 3 + 2, none⟩) (Nat.le_refl _) _
      have Hall : Hid (∀ j (h : j < F.length), j < k + 1 → L3 f' j F[j]) := by
        intro j h hj
        by_cases hjk : j = k
        · subst hjk
          rw [Hf.out]
          exact hL
        · exact hLo j _ hjk (hall.out j h (by omega))
      have hd := fun (j : Nat) (hj : j < 3) => hrow1.cell (i := k * 3 + j) (by omega)
      have d0 := hd 0 (by omega)
      have d1 := hd 1 (by omega)
      have d2 := hd 2 (by omega)
      have z0 := hrow1.frozen (k * 3)
      have z1 := hrow1.frozen (k * 3 + 1)
      have z2 := hrow1.frozen (k * 3 + 2)
      rw [Nat.add_zero] at d0
      have hadd := add_off G (k * 3)
      replace hrow2 := mkHw hrow2
      replace hb2 := mkHw hb2
      clear hd hrow hrow1 hL hLo hall hb hb1 c0 c1 c2 hT
      unfold set3 at hrow2 hb2
      go_wp2
      go_roundw
      case rel => exact ⟨k + 1, f', by omega, by go_num, hrow2.out, Hall.out, hb2.out⟩
      case measure => simp [Lib.intOf]; omega
    · go_wp2
      go_ret
      refine ⟨by rw [hG]; rfl, ?_, by rw [hG]; exact hb⟩
      intro i hi
      have hl := hall.out i hi (by omega)
      refine ⟨⟨w.heap.size, 0, none⟩, rfl, by rw [hG]; exact hrow.lt, ?_⟩
      rw [add_off, hG]
      have hd := fun (j : Nat) (hj : j < 3) => hrow.cell (i := i * 3 + j) (by omega)
      refine ⟨?_, ?_, ?_⟩
      · have := hd 0 (by omega); rw [Nat.add_zero, hl.c0] at this; exact this
      · have := hd 1 (by omega); rw [hl.c1] at this; exact this
      · have := hd 2 (by omega); rw [hl.c2] at this; exact this
end Go.Proofs.Ytgmjbgnjmpllmaa
