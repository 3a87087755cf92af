
/- Marks on a list of fields that a head has: set, and held. -/
import Derived.Test.YtoekkjdkjmhmhaaReadImpl
namespace Go.Proofs.Ytoekkjdkjmhmhaa
open Go.RowKit Go.Lib
namespace Pl
def dg : Nat → Nat → List UInt8 → List UInt8
  | 0, _, out => out
  | f + 1, n, out => if n = 0 then out else dg f (n / 10) (UInt8.ofNat (48 + n % 10) :: out)

/-- What marks place n. -/
def mark (n : Nat) : List UInt8 := 109 :: dg n n []

theorem dg_zero (f : Nat) (out : List UInt8) : dg f 0 out = out := by
  cases f <;> simp [dg]
theorem dg_step (f n : Nat) (out : List UInt8) (h : 0 < n) (hf : n ≤ f) : dg f n out = dg (f - 1) (n / 10) (UInt8.ofNat (48 + n % 10) :: out) := by
  obtain ⟨g, rfl⟩ : ∃ g, f = g + 1 := ⟨f - 1, by omega⟩
  rw [dg, if_neg (by omega)]
  rfl
theorem cat_mk (a b : List UInt8) : (⟨a.toArray⟩ : ByteArray) ++ ⟨b.toArray⟩ = ⟨(a ++ b).toArray⟩ := by
  apply ByteArray.ext
  simp
def marksF (i : Nat) : List Fl := (List.range i).map fun j => (mark (2 * j + 1), mark (2 * j + 2))
theorem marksF_len (i : Nat) : (marksF i).length = i := by simp [marksF]
theorem marksF_succ (i : Nat) : marksF (i + 1) = marksF i ++ [(mark (2 * i + 1), mark (2 * i + 2))] := by simp [marksF, List.range_succ]
theorem marksF_get (n i : Nat) (h : i < (marksF n).length) : (marksF n)[i] = (mark (2 * i + 1), mark (2 * i + 2)) := by simp [marksF]
end Pl
set_option maxHeartbeats 400000 in
theorem markText (n : Nat) (w : World) (h0 : 0 < n) (hn : n ≤ 1000000) :
    Calls Try.prog 27 #[.int .i64 n] w fun e w' => e = .returned (.string ⟨(Pl.mark n).toArray⟩) ∧ Below w.heap.size w w' := by
  have ht : decide ((n : Int) ≤ 0) = false := by simp; omega
  go_enter Try.func27, Try.ntmps27
  go_wp2
  go_loopw [0, 3] (fun t v wr => ∃ (f k : Nat) (out : List UInt8), t = .int .i64 k ∧ v = .string ⟨out.toArray⟩ ∧ k ≤ n ∧ out.length + k ≤ n ∧ k ≤ f ∧ Hid (Pl.dg f k out = Pl.dg n n []) ∧ Below w.heap.size w wr) (fun t _ _ => (Lib.intOf t).toNat)
  case atStart => exact ⟨n, n, [], rfl, rfl, Nat.le_refl _, by simp, Nat.le_refl _, rfl, Below.refl _ _⟩
  case round =>
    obtain ⟨f, k, out, rfl, rfl, hk, hl, hf, hd, hb⟩ := hrel
    by_cases hk0 : 0 < k
    · have hst := Pl.dg_step f k out hk0 hf
      have hu : ((UInt8.ofNat (48 + k % 10)).toNat : Int) = 48 + (k : Int) % 10 := by
        rw [UInt8.toNat_ofNat_of_lt' (by simp [UInt8.size]; omega)]
        omega
      generalize UInt8.ofNat (48 + k % 10) = d at hst hu
      have Hst := mkHid hst
      have hcv : (convert 54 9 (.slice (some ⟨wr.heap.size, 0, none⟩) 1 1)).run Try.prog (wr.alloc (.cells #[.int .u8 (48 + (k : Int) % 10)] 5)) = .ok (.string ⟨#[d]⟩) (wr.alloc (.cells #[.int .u8 (48 + (k : Int) % 10)] 5)) := by
        refine run_convert_bytes_back (P := Try.prog) _ 54 9 5 ⟨wr.heap.size, 0, none⟩ 1 [d] Try.underlying54 Try.underlying5 Try.underlying9 ?_
        intro j hj
        match j, hj with
        | 0, hj => rw [add_off]; simp only [List.getElem_cons_zero, hu]; simp
      have hbs := hb.size
      clear hu hst
      go_wp2
      go_roundw
      case rel => exact ⟨f - 1, k / 10, d :: out, by go_num, congrArg Value.string (Pl.cat_mk [d] out), by omega, by simp; omega, by omega, (Hst.out.symm.trans hd.out), hb.alloc hbs _⟩
      case measure => simp [Lib.intOf]; omega
    · have hk0' : k = 0 := by omega
      subst hk0'
      have hd' : Hid (out = Pl.dg n n []) := by have := hd.out; rw [Pl.dg_zero] at this; exact this
      clear hd
      go_wp2
      go_ret
      refine ⟨?_, hb⟩
      rw [Pl.mark, ← hd'.out]
      exact congrArg (fun x => Ending.returned (Value.string x)) (Pl.cat_mk [109] out)
theorem cellsF_mid (P Q : List Fl) (f : Fl) : cellsF (P ++ f :: Q) = cellsF P ++ txt f.1 :: txt f.2 :: cellsF Q := by
  rw [cellsF_app]; rfl
theorem cellsF_set (P Q : List Fl) (f : Fl) (a b : List UInt8) : ((cellsF (P ++ f :: Q)).set (P.length * 2) (txt a)).set (P.length * 2 + 1) (txt b) = cellsF (P ++ [(a, b)] ++ Q) := by
  rw [cellsF_mid, List.append_assoc, List.singleton_append, cellsF_mid, ← cellsF_len P, List.set_append, if_neg (by omega), Nat.sub_self, List.set_cons_zero, List.set_append, if_neg (by omega)]
  rw [show (cellsF P).length + 1 - (cellsF P).length = 1 by omega]
  rfl
/-- Cells of a block, each free to be written. -/
structure RowV (g : Nat) (xs : List Value) (w : World) : Prop where
  cell : ∀ j (h : j < xs.length), w.cell? ⟨g, j, none⟩ = some xs[j]
  free : ∀ j (_ : j < xs.length), w.frozen? ⟨g, j, none⟩ = false
  lt : g < w.heap.size
theorem RowV.below {g : Nat} {xs : List Value} {w w' : World} (h : RowV g xs w) (hb : Below w.heap.size w w') : RowV g xs w' :=
  ⟨fun j hj => (World.cell?_of_block (hb.block g h.lt)).trans (h.cell j hj), fun j hj => (World.frozen?_of_block (hb.block g h.lt)).trans (h.free j hj), Nat.lt_of_lt_of_le h.lt hb.size⟩
theorem RowV.set {g : Nat} {xs : List Value} {w : World} (h : RowV g xs w) (j : Nat) (hj : j < xs.length) (v : Value) : RowV g (xs.set j v) (w.setCell ⟨g, j, none⟩ v) := by
  refine ⟨fun i hi => ?_, fun i hi => ?_, by have := h.lt; simp [World.setCell]; exact this⟩
  · have hi' : i < xs.length := by simpa using hi
    by_cases e : j = i
    · subst e
      rw [World.cell?_setCell_same w _ _ (h.cell j hj), List.getElem_set_self]
    · rw [World.cell?_setCell_other w ⟨g, j, none⟩ ⟨g, i, none⟩ _ (by simp), List.getElem_set_ne e]
      exact h.cell i hi'
  · rw [World.frozen?_setCell]; exact h.free i (by simpa using hi)
theorem cellB' {w w' : World} (hb : Below w.heap.size w w') {a : Addr} {v : Value} (hc : w.cell? a = some v) : w'.cell? a = some v := by
  have : a.block < w.heap.size := by
    by_cases h : a.block < w.heap.size
    · exact h
    · have e : w.heap[a.block]? = none := Array.getElem?_eq_none (by omega)
      simp [World.cell?, e] at hc
  exact (hb.cell this).trans hc
theorem OwnF.row {B : Nat} {v : Value} {F : List Fl} {w : World} (h : OwnF B v F w) (hF : F ≠ []) : ∃ g cap, v = .slice (some ⟨g, 0, none⟩) F.length cap ∧ B ≤ g ∧ RowV g (cellsF F) w := by
  obtain ⟨h1, ⟨_, h2⟩ | ⟨g, cap, cur, rfl, hg, hc, hn, hm, hs, ht⟩⟩ := h
  · exact absurd (List.length_eq_zero_iff.1 h2) hF
  · have hlt : g < w.heap.size := by
      by_cases h : g < w.heap.size
      · exact h
      · rw [Array.getElem?_eq_none (by omega)] at hc; cases hc
    refine ⟨g, cap, rfl, hg, fun j hj => ?_, fun j hj => by simp [World.frozen?, hc], hlt⟩
    have e : (cellsF F)[j] = cur[j]'(by rw [h1] at hj; rw [hs]; have := Nat.mul_le_mul_right 2 hn; omega) := by
      have : (cellsF F)[j]? = cur.toList[j]? := by
        rw [← ht, List.getElem?_take, if_pos (by omega)]
      rw [List.getElem?_eq_getElem hj] at this
      rw [List.getElem?_eq_getElem (by rw [h1] at hj; simp [hs]; have := Nat.mul_le_mul_right 2 hn; omega)] at this
      simpa using this
    simp [World.cell?, hc, e]
set_option maxHeartbeats 2000000 in
theorem lawMark (g cap : Nat) (F : List Fl) (w : World) (hF : F.length ≤ 200) (h : RowV g (cellsF F) w) :
    Calls Try.prog 19 #[.slice (some ⟨g, 0, none⟩) F.length cap, .int .i64 1] w fun e w' => e = .returned (.int .i64 ((2 * F.length + 1 : Nat) : Int)) ∧ RowV g (cellsF (Pl.marksF F.length)) w' ∧ w.grownBy w' (some g) := by
  have H := (show Hid (RowV g (cellsF (Pl.marksF 0 ++ F.drop 0)) w) from h)
  clear h
  go_enter Try.func19, Try.ntmps19
  go_wp2
  go_loopw [1, 5] (fun u t wr => ∃ i : Nat, i ≤ F.length ∧ u = .int .i64 ((2 * i + 1 : Nat) : Int) ∧ t = .int .i64 i ∧ Hid (RowV g (cellsF (Pl.marksF i ++ F.drop i)) wr) ∧ Hid (w.grownBy wr (some g))) (fun _ t _ => F.length - (Lib.intOf t).toNat)
  case atStart => exact ⟨0, Nat.zero_le _, rfl, rfl, H, grown_refl _ _⟩
  case round =>
    clear H
    obtain ⟨i, hi, rfl, rfl, HR, HG⟩ := hrel
    by_cases hlt : i < F.length
    · have hl : (cellsF (Pl.marksF i ++ F.drop i)).length = F.length * 2 := by rw [cellsF_len, List.length_append, Pl.marksF_len, List.length_drop]; omega
      have m1 := fun w => markText (1 + 2 * i) w (by omega) (by omega)
      have m2 := fun w => markText (2 * i + 2) w (by omega) (by omega)
      simp only [show 1 + 2 * i = 2 * i + 1 by omega] at m1
      simp only [show (((2 * i + 2 : Nat)) : Int) = 2 * (i : Int) + 1 + 1 by omega] at m2
      have hst : Hid (((cellsF (Pl.marksF i ++ F.drop i)).set (i * 2) (txt (Pl.mark (2 * i + 1)))).set (i * 2 + 1) (txt (Pl.mark (2 * i + 2))) = cellsF (Pl.marksF (i + 1) ++ F.drop (i + 1))) := show _ = _ from by
        rw [List.drop_eq_getElem_cons hlt, Pl.marksF_succ]
        have := cellsF_set (Pl.marksF i) (F.drop (i + 1)) F[i] (Pl.mark (2 * i + 1)) (Pl.mark (2 * i + 2))
        rw [Pl.marksF_len] at this
        exact this
      have hadd : (⟨g, 0, none⟩ : Addr).add (i * 2) = ⟨g, i * 2, none⟩ := add_off _ _
      generalize cellsF (Pl.marksF i ++ F.drop i) = xs at *
      have hlI : (i : Int) < (F.length : Int) := by omega
      go_wp2_with fail
      refine (m1 _).mono ?_
      rintro e w1 ⟨rfl, hb1⟩
      have R1 := (show Hid _ from HR.out.below hb1)
      have G1 := (show Hid _ from grown_trans HG.out (grown_below (r := some g) hb1))
      clear hb1 HR HG
      have c0 := R1.out.cell (i * 2) (by omega)
      have f0 := R1.out.free (i * 2) (by omega)
      generalize xs[i * 2]'(by omega) = x0 at c0
      have R2 := (show Hid _ from R1.out.set (i * 2) (by omega) (txt (Pl.mark (2 * i + 1))))
      have G2 := (show Hid _ from grown_trans G1.out (grown_set w1 g (i * 2) (txt (Pl.mark (2 * i + 1)))))
      go_wp2_with fail
      refine (m2 _).mono ?_
      rintro e w2 ⟨rfl, hb2⟩
      have R3 := (show Hid (RowV g _ w2) from R2.out.below hb2)
      have G3 := (show Hid (w.grownBy w2 (some g)) from grown_trans G2.out (grown_below (r := some g) hb2))
      clear hb2 R1 G1 R2 G2 c0 f0
      have c0 := R3.out.cell (i * 2 + 1) (by simp; omega)
      have f0 := R3.out.free (i * 2 + 1) (by simp; omega)
      generalize (xs.set (i * 2) (txt (Pl.mark (2 * i + 1))))[i * 2 + 1]'(by simp; omega) = x1 at c0
      have R4 := (show Hid _ from R3.out.set (i * 2 + 1) (by simp; omega) (txt (Pl.mark (2 * i + 2))))
      have G4 := (show Hid _ from grown_trans G3.out (grown_set w2 g (i * 2 + 1) (txt (Pl.mark (2 * i + 2)))))
      rw [hst.out] at R4
      go_wp2
      go_roundw
      case rel => exact ⟨i + 1, by omega, by go_num, by go_num, R4, G4⟩
      case measure => simp [Lib.intOf]; omega
    · have hii : i = F.length := by omega
      subst hii
      rw [List.drop_eq_nil_of_le (Nat.le_refl _), List.append_nil] at HR
      go_wp2
      go_ret
      exact ⟨rfl, HR.out, HG.out⟩
set_option maxHeartbeats 2000000 in
theorem lawHeld (g cap n : Nat) (w : World) (hn : n ≤ 200) (h : RowV g (cellsF (Pl.marksF n)) w) :
    Calls Try.prog 20 #[.slice (some ⟨g, 0, none⟩) n cap, .int .i64 1] w fun e w' => e = .returned (.int .i64 ((2 * n + 1 : Nat) : Int)) ∧ Below w.heap.size w w' := by
  have H := (show Hid _ from h)
  clear h
  go_enter Try.func20, Try.ntmps20
  go_wp2
  go_loopw [1, 5] (fun u t wr => ∃ i : Nat, i ≤ n ∧ u = .int .i64 ((2 * i + 1 : Nat) : Int) ∧ t = .int .i64 i ∧ Hid (Below w.heap.size w wr)) (fun _ t _ => n - (Lib.intOf t).toNat)
  case atStart => exact ⟨0, Nat.zero_le _, rfl, rfl, Below.refl _ _⟩
  case round =>
    obtain ⟨i, hi, rfl, rfl, HB⟩ := hrel
    by_cases hlt : i < n
    · have m1 := fun w => markText (2 * i + 1) w (by omega) (by omega)
      have m2 := fun w => markText (2 * i + 2) w (by omega) (by omega)
      simp only [show (((2 * i + 2 : Nat)) : Int) = 2 * (i : Int) + 1 + 1 by omega] at m2
      have hadd : (⟨g, 0, none⟩ : Addr).add (i * 2) = ⟨g, i * 2, none⟩ := add_off _ _
      have hlI : (i : Int) < (n : Int) := by omega
      have hR := H.out.below HB.out
      have hl : (cellsF (Pl.marksF n)).length = n * 2 := by rw [cellsF_len, Pl.marksF_len]
      obtain ⟨d0, d1⟩ := cellsF_get (Pl.marksF n) i (by rw [Pl.marksF_len]; exact hlt)
      rw [Pl.marksF_get] at d0 d1
      have c0 := hR.cell (i * 2) (by omega)
      have c1 := hR.cell (i * 2 + 1) (by omega)
      rw [List.getElem?_eq_getElem (by omega)] at d0 d1
      rw [Option.some.inj d0] at c0
      rw [Option.some.inj d1] at c1
      unfold txt at c0 c1
      clear d0 d1 hR hl
      have k0 := cell_regrown c0
      have cM : ∀ d os, Calls Try.prog 27 #[.int .i64 ((2 * i + 1 : Nat) : Int)] (Go.Sort.grow (redrawn wr d) os) fun e w'' => e = .returned (.string ⟨(Pl.mark (2 * i + 1)).toArray⟩) ∧ ∃ p : Regrown, w'' = Go.Sort.grow (redrawn wr p.d) p.os := fun d os => Calls.regrown_of (m1 _)
      go_wp2
      refine wp_region_quiet_below (by kernel_rfl) (by kernel_rfl) ?_
      iterate 6 (quiet_step (fail))
      quiet_step (exact cM _ _)
      repeat (quiet_step (fail))
      refine wpQuiet_nil ?_
      intro _ hw'
      obtain ⟨⟨dq, osq⟩, hw''⟩ := hw'
      subst hw''
      have hbq := below_regrown wr dq osq
      have c2 := cellB' hbq c1
      have HB2 := (show Hid _ from HB.out.trans (hbq.mono HB.out.size))
      generalize Go.Sort.grow (redrawn wr dq) osq = wq at *
      clear cM k0 c0 c1 hbq m1
      have k0 := cell_regrown c2
      have cM : ∀ d os, Calls Try.prog 27 #[.int .i64 (2 * (i : Int) + 1 + 1)] (Go.Sort.grow (redrawn wq d) os) fun e w'' => e = .returned (.string ⟨(Pl.mark (2 * i + 2)).toArray⟩) ∧ ∃ p : Regrown, w'' = Go.Sort.grow (redrawn wq p.d) p.os := fun d os => Calls.regrown_of (m2 _)
      go_wp2
      refine wp_region_quiet_below (by kernel_rfl) (by kernel_rfl) ?_
      iterate 6 (quiet_step (fail))
      quiet_step (exact cM _ _)
      repeat (quiet_step (fail))
      refine wpQuiet_nil ?_
      intro _ hw'
      obtain ⟨⟨dr, osr⟩, hw''⟩ := hw'
      subst hw''
      have hbr := below_regrown wq dr osr
      have HB3 := (show Hid _ from HB2.out.trans (hbr.mono HB2.out.size))
      clear cM k0 c2
      go_wp2
      go_roundw
      case rel => exact ⟨i + 1, by omega, by go_num, by go_num, HB3⟩
      case measure => simp [Lib.intOf]; omega
    · have hii : i = n := by omega
      subst hii
      go_wp2
      go_ret
      exact ⟨rfl, HB.out⟩
end Go.Proofs.Ytoekkjdkjmhmhaa
