
/- What marks a place: plain, and the law's own walk. -/

/- The law's marks on lists of texts and of numbers, from any number on; on several that lie apart. -/

/- The law's marks on nodes: what turns. -/
import Derived.Test.YtlphojaeaogehaaGreatDoorAppN
import Derived.Deep.QuietTactic
import Derived.BigQuiet
import Derived.Deep.RegionWith
import Derived.Test.YtlphojaeaogehaaGreatDoorRfRead1
namespace Go.Proofs.YtlphojaeaogehaaGreatDoor
open Go.RowKit Go.Lib Go.Maps
namespace Pl

def dg : Nat → Nat → List UInt8 → List UInt8
  | 0, _, out => out
  | f + 1, n, out => if n = 0 then out else dg f (n / 10) (UInt8.ofNat (48 + n % 10) :: out)

/-- What marks place n. -/
def mark (n : Nat) : List UInt8 := 109 :: dg n n []

set_option maxRecDepth 20000 in
theorem dg_zero (f : Nat) (out : List UInt8) : dg f 0 out = out := by
  cases f <;> simp [dg]
set_option maxRecDepth 20000 in
theorem dg_step (f n : Nat) (out : List UInt8) (h : 0 < n) (hf : n ≤ f) : dg f n out = dg (f - 1) (n / 10) (UInt8.ofNat (48 + n % 10) :: out) := by
  obtain ⟨g, rfl⟩ : ∃ g, f = g + 1 := ⟨f - 1, by omega⟩
  rw [dg, if_neg (by omega)]
  rfl
set_option maxRecDepth 20000 in
theorem cat_mk (a b : List UInt8) : (⟨a.toArray⟩ : ByteArray) ++ ⟨b.toArray⟩ = ⟨(a ++ b).toArray⟩ := by
  apply ByteArray.ext
  simp
end Pl
set_option maxRecDepth 20000 in
set_option maxHeartbeats 400000 in
theorem markText (n : Nat) (w : World) (h0 : 0 < n) (hn : n ≤ 10000000000000) :
    Calls Tryz.prog 41 #[.int .i64 n] w fun e w' => e = .returned (.string ⟨(Pl.mark n).toArray⟩) ∧ Below w.heap.size w w' := by
  have ht : decide ((n : Int) ≤ 0) = false := by simp; omega
  go_enter Tryz.func41, Tryz.ntmps41
  go_wp2
  go_loopw [0, 3] (fun t v wr => ∃ (f k : Nat) (out : List UInt8), t = .int .i64 k ∧ v = .string ⟨out.toArray⟩ ∧ k ≤ n ∧ out.length + k ≤ n ∧ k ≤ f ∧ Hid (Pl.dg f k out = Pl.dg n n []) ∧ Below w.heap.size w wr) (fun t _ _ => (RowKit.intOf t).toNat)
  case atStart => exact ⟨n, n, [], rfl, rfl, Nat.le_refl _, by simp, Nat.le_refl _, rfl, Below.refl _ _⟩
  case round =>
    obtain ⟨f, k, out, rfl, rfl, hk, hl, hf, hd, hb⟩ := hrel
    by_cases hk0 : 0 < k
    · have hst := Pl.dg_step f k out hk0 hf
      have hu : ((UInt8.ofNat (48 + k % 10)).toNat : Int) = 48 + (k : Int) % 10 := by
        rw [UInt8.toNat_ofNat_of_lt' (by simp [UInt8.size]; omega)]
        omega
      generalize UInt8.ofNat (48 + k % 10) = d at hst hu
      have Hst := mkHid hst
      have hcv : (convert 59 9 (.slice (some ⟨wr.heap.size, 0, none⟩) 1 1)).run Tryz.prog (wr.alloc (.cells #[.int .u8 (48 + (k : Int) % 10)] 5)) = .ok (.string ⟨#[d]⟩) (wr.alloc (.cells #[.int .u8 (48 + (k : Int) % 10)] 5)) := by
        refine run_convert_bytes_back (P := Tryz.prog) _ 59 9 5 ⟨wr.heap.size, 0, none⟩ 1 [d] Tryz.underlying59 Tryz.underlying5 Tryz.underlying9 ?_
        intro j hj
        match j, hj with
        | 0, hj => rw [add_off]; simp only [List.getElem_cons_zero, hu]; simp
      have hbs := hb.size
      clear hu hst
      go_wp2
      go_roundw
      case rel => exact ⟨f - 1, k / 10, d :: out, by go_num, congrArg Value.string (Pl.cat_mk [d] out), by omega, by simp; omega, by omega, (Hst.out.symm.trans hd.out), hb.alloc hbs _⟩
      case measure => simp [RowKit.intOf]; omega
    · have hk0' : k = 0 := by omega
      subst hk0'
      have hd' : Hid (out = Pl.dg n n []) := by have := hd.out; rw [Pl.dg_zero] at this; exact this
      clear hd
      go_wp2
      go_ret
      refine ⟨?_, hb⟩
      rw [Pl.mark, ← hd'.out]
      exact congrArg (fun x => Ending.returned (Value.string x)) (Pl.cat_mk [109] out)
end Go.Proofs.YtlphojaeaogehaaGreatDoor
namespace Go.Proofs.YtlphojaeaogehaaGreatDoor
open Go.RowKit Go.Lib Go.Maps
def markR (n : Nat) : ByteArray := ⟨(Pl.mark n).toArray⟩
/-- n marks from k on. -/
def marksR (k n : Nat) : List ByteArray := (List.range n).map fun j => markR (k + j)
set_option maxRecDepth 20000 in
theorem marksR_len (k n : Nat) : (marksR k n).length = n := by simp [marksR]
set_option maxRecDepth 20000 in
theorem marksR_get (k n j : Nat) (h : j < (marksR k n).length) : (marksR k n)[j] = markR (k + j) := by simp [marksR]
set_option maxRecDepth 20000 in
theorem marksR_set (k : Nat) (P : List ByteArray) (i : Nat) (h : i < P.length) : (marksR k i ++ P.drop i).set i (markR (k + i)) = marksR k (i + 1) ++ P.drop (i + 1) := by
  rw [List.drop_eq_getElem_cons h]
  have e : marksR k (i + 1) = marksR k i ++ [markR (k + i)] := by simp [marksR, List.range_succ]
  rw [e, List.set_append, if_neg (by rw [marksR_len]; omega), marksR_len, Nat.sub_self, List.set_cons_zero, List.append_assoc]
  rfl
set_option maxRecDepth 20000 in
theorem grownBelowR {w w' : World} {r : Option Nat} (hb : Below w.heap.size w w') : w.grownBy w' r := ⟨hb.os, hb.tape, hb.output, hb.size, fun k hk _ => hb.block k hk⟩
set_option maxRecDepth 20000 in
set_option maxHeartbeats 1000000 in
theorem lawMarkR (o : Option Addr) (P : List ByteArray) (cap B k0 : Nat) (w : World) (hl : P.length ≤ 1048576) (hk0 : 0 < k0) (hk1 : k0 ≤ 1000000000000) (h : OwnX B (.slice o P.length cap) P w) :
    Calls Tryz.prog 42 #[.slice o P.length cap, .int .i64 (k0 : Int)] w fun e w' => e = .returned (.int .i64 ((k0 + P.length : Nat) : Int)) ∧ Hid (OwnX B (.slice o P.length cap) (marksR k0 P.length) w') ∧ Hid (w.grownBy w' (Value.slice o P.length cap).ownBlock) := by
  have H := mkHid h
  clear h
  go_enter Tryz.func42, Tryz.ntmps42
  go_wp2
  go_loopw [1, 5] (fun m i wr => ∃ k q : Nat, k ≤ P.length ∧ i = .int .i64 k ∧ m = .int .i64 (q : Int) ∧ Hid (q = k0 + k) ∧ Hid (OwnX B (.slice o P.length cap) (marksR k0 k ++ P.drop k) wr) ∧ Hid (w.grownBy wr (Value.slice o P.length cap).ownBlock)) (fun _ i _ => P.length - (Lib.intOf i).toNat)
  case atStart => exact ⟨0, k0, Nat.zero_le _, rfl, rfl, rfl, H, ⟨rfl, rfl, rfl, Nat.le_refl _, fun _ _ _ => rfl⟩⟩
  case round =>
    clear H
    obtain ⟨k, q, hk, rfl, rfl, hq, hown, hg⟩ := hrel
    have hqb : q ≤ 1000001048576 := by have := hq.out; omega
    have hq0 : 0 < q := by have := hq.out; omega
    by_cases hlt : k < P.length
    · have hlen : (marksR k0 k ++ P.drop k).length = P.length := by simp [marksR_len]; omega
      have hset := mkHid (marksR_set k0 P k hlt)
      rw [show k0 + k = q by have := hq.out; omega] at hset
      have cT := mkHid (markText q wr hq0 (by omega))
      generalize marksR k0 k ++ P.drop k = cur at *
      go_wp2_with fail
      refine cT.out.mono ?_
      rintro e w1 ⟨rfl, hb⟩
      have hown' := hown.out.below hb
      unfold OwnX at hown'
      rw [hlen] at hown'
      rcases hown'.2 with ⟨h1, h0⟩ | ⟨g, cap', cr, h1, hB, -⟩
      · omega
      · simp only [Value.slice.injEq] at h1
        obtain ⟨rfl, -, rfl⟩ := h1
        have hcl : k < (strCellsX cur).length := by simp [strCellsX]; omega
        have d0 : w1.cell? ⟨g, k, none⟩ = some ((strCellsX cur)[k]) := by rw [World.ownsRow.cellAt hown' k (by omega)]; exact List.getElem?_eq_getElem hcl
        have z0 := World.ownsRow.frozenAt hown' k
        have hst := World.ownsRow.stored hown' k (.string (markR q))
        have hn : Hid (OwnX B (.slice (some ⟨g, 0, none⟩) P.length cap) (marksR k0 (k + 1) ++ P.drop (k + 1)) (w1.setCell ⟨g, k, none⟩ (.string (markR q)))) := by
          rw [← hset.out]
          show World.ownsRow _ _ _ _ _ _ _
          rw [List.length_set, hlen, strCellsX, List.map_set]
          exact hst.1
        have hg2 : Hid (w.grownBy (w1.setCell ⟨g, k, none⟩ (.string (markR q))) (Value.slice (some ⟨g, 0, none⟩) P.length cap).ownBlock) := grG_trans (grG_trans hg.out (grownBelowR hb)) hst.2
        have hadd := add_off g k
        generalize (strCellsX cur)[k] = y0 at d0
        unfold markR at hn hg2
        clear hown' hst hset hown hg hcl cT hb hlen hB
        go_wp2
        go_roundw
        case rel => exact ⟨k + 1, q + 1, by omega, by go_num, by go_num, by show _ = _; have := hq.out; omega, hn, hg2⟩
        case measure => simp [Lib.intOf]; omega
    · have hkl : Hid (k = P.length) := Nat.le_antisymm hk (by omega)
      have hn : Hid (OwnX B (.slice o P.length cap) (marksR k0 P.length) wr) := by
        have := hown.out
        rw [hkl.out, List.drop_length, List.append_nil] at this
        exact this
      clear hown
      go_wp2
      go_ret
      exact ⟨by rw [hq.out, hkl.out]; first | rfl | (simp; done), hn, hg⟩
set_option maxRecDepth 20000 in
set_option maxHeartbeats 1000000 in
theorem lawHeldR (o : Option Addr) (n cap lo k0 : Nat) (w : World) (hl : n ≤ 1048576) (hk0 : 0 < k0) (hk1 : k0 ≤ 1000000000000) (h : TxL lo w.heap.size w o (marksR k0 n)) :
    Calls Tryz.prog 44 #[.slice o n cap, .int .i64 (k0 : Int)] w fun e w' => e = .returned (.int .i64 ((k0 + n : Nat) : Int)) ∧ Below w.heap.size w w' := by
  have H := mkHid h
  clear h
  go_enter Tryz.func44, Tryz.ntmps44
  go_wp2
  go_loopw [1, 5] (fun m i wr => ∃ k q : Nat, k ≤ n ∧ i = .int .i64 k ∧ m = .int .i64 (q : Int) ∧ Hid (q = k0 + k) ∧ Hid (Below w.heap.size w wr)) (fun _ i _ => n - (Lib.intOf i).toNat)
  case atStart => exact ⟨0, k0, Nat.zero_le _, rfl, rfl, rfl, Below.refl _ _⟩
  case round =>
    obtain ⟨k, q, hk, rfl, rfl, hq, hb⟩ := hrel
    have hqb : q ≤ 1000001048576 := by have := hq.out; omega
    have hq0 : 0 < q := by have := hq.out; omega
    by_cases hlt : k < n
    · obtain ⟨a, rfl, -, hlta, hc1⟩ := (H.out.below hb.out (Nat.le_refl _)) k (by rw [marksR_len]; exact hlt)
      rw [marksR_get, show k0 + k = q by have := hq.out; omega] at hc1
      have hla : (a.add k).block < wr.heap.size := by rw [add_blockG]; exact Nat.lt_of_lt_of_le hlta hb.out.size
      have Hc := mkHid (fun (w2 : World) (hb2 : Below wr.heap.size wr w2) => (hb2.cell (p := a.add k) hla).trans hc1)
      have hmk := mkHid (fun W => markText q W hq0 (by omega))
      unfold markR at hc1 Hc
      have zq : ∀ x : ByteArray, (x.toList != x.toList) = false := fun x => by simp
      have zq2 := zq ⟨(Pl.mark q).toArray⟩
      generalize (⟨(Pl.mark q).toArray⟩ : ByteArray) = x at *
      have hbr : Below wr.heap.size wr wr := Below.refl _ _
      clear H zq
      go_wp2
      go_region_with (go_at_call 41; (refine (hmk.out _).mono ?_; rintro e w2 ⟨rfl, hb2⟩; have hr2 := Hc.out w2 (((Below.refl wr.heap.size wr).drew).trans hb2)))
      all_goals
        have hbw := mkHid (hb.out.drew.trans (hb2.mono hb.out.size))
        go_wp2
        go_roundw
        case rel => exact ⟨k + 1, q + 1, by omega, by go_num, by go_num, by show _ = _; have := hq.out; omega, hbw⟩
        case measure => simp [Lib.intOf]; omega
    · have hkl : Hid (k = n) := Nat.le_antisymm hk (by omega)
      go_wp2
      go_ret
      exact ⟨by rw [hq.out, hkl.out]; first | rfl | (simp; done), hb.out⟩
set_option maxRecDepth 20000 in
theorem lawMarkR0 (o : Option Addr) (cap : Nat) (k0 : Nat) (w : World) :
    Calls Tryz.prog 42 #[.slice o 0 cap, .int .i64 (k0 : Int)] w fun e w' => e = .returned (.int .i64 (k0 : Int)) ∧ w' = w := by
  go_enter Tryz.func42, Tryz.ntmps42
  go_wp2
  go_loopw [1, 5] (fun m i wr => m = .int .i64 (k0 : Int) ∧ i = .int .i64 0 ∧ wr = w) (fun _ _ _ => 0)
  case atStart => exact ⟨rfl, rfl, rfl⟩
  case round =>
    obtain ⟨rfl, rfl, rfl⟩ := hrel
    go_wp2
    go_ret
    exact ⟨rfl, rfl⟩
set_option maxRecDepth 20000 in
theorem lawHeldR0 (o : Option Addr) (cap : Nat) (k0 : Nat) (w : World) :
    Calls Tryz.prog 44 #[.slice o 0 cap, .int .i64 (k0 : Int)] w fun e w' => e = .returned (.int .i64 (k0 : Int)) ∧ w' = w := by
  go_enter Tryz.func44, Tryz.ntmps44
  go_wp2
  go_loopw [1, 5] (fun m i wr => m = .int .i64 (k0 : Int) ∧ i = .int .i64 0 ∧ wr = w) (fun _ _ _ => 0)
  case atStart => exact ⟨rfl, rfl, rfl⟩
  case round =>
    obtain ⟨rfl, rfl, rfl⟩ := hrel
    go_wp2
    go_ret
    exact ⟨rfl, rfl⟩
set_option maxRecDepth 20000 in
theorem lawMarkI0 (o : Option Addr) (cap : Nat) (k0 : Nat) (w : World) :
    Calls Tryz.prog 43 #[.slice o 0 cap, .int .i64 (k0 : Int)] w fun e w' => e = .returned (.int .i64 (k0 : Int)) ∧ w' = w := by
  go_enter Tryz.func43, Tryz.ntmps43
  go_wp2
  go_loopw [1, 5] (fun m i wr => m = .int .i64 (k0 : Int) ∧ i = .int .i64 0 ∧ wr = w) (fun _ _ _ => 0)
  case atStart => exact ⟨rfl, rfl, rfl⟩
  case round =>
    obtain ⟨rfl, rfl, rfl⟩ := hrel
    go_wp2
    go_ret
    exact ⟨rfl, rfl⟩
set_option maxRecDepth 20000 in
theorem lawHeldI0 (o : Option Addr) (cap : Nat) (k0 : Nat) (w : World) :
    Calls Tryz.prog 45 #[.slice o 0 cap, .int .i64 (k0 : Int)] w fun e w' => e = .returned (.int .i64 (k0 : Int)) ∧ w' = w := by
  go_enter Tryz.func45, Tryz.ntmps45
  go_wp2
  go_loopw [1, 5] (fun m i wr => m = .int .i64 (k0 : Int) ∧ i = .int .i64 0 ∧ wr = w) (fun _ _ _ => 0)
  case atStart => exact ⟨rfl, rfl, rfl⟩
  case round =>
    obtain ⟨rfl, rfl, rfl⟩ := hrel
    go_wp2
    go_ret
    exact ⟨rfl, rfl⟩
set_option maxRecDepth 20000 in
/-- Marks on a list that is empty or has a row of its own. -/
theorem lawMarkLs (v : Value) (P : List ByteArray) (B k0 : Nat) (w : World) (hl : P.length ≤ 1048576) (hk0 : 0 < k0) (hk1 : k0 ≤ 1000000000000) (h : LsX B w (v, P)) :
    Calls Tryz.prog 42 #[v, .int .i64 (k0 : Int)] w fun e w' => e = .returned (.int .i64 ((k0 + P.length : Nat) : Int)) ∧ Hid (LsX B w' (v, marksR k0 P.length)) ∧ Hid (P = [] ∧ w' = w ∨ P ≠ [] ∧ w.grownBy w' v.ownBlock) := by
  obtain ⟨⟨o, cap, e⟩, h2⟩ := h
  dsimp only at e h2
  subst e
  by_cases hn : P = []
  · subst hn
    refine (lawMarkR0 o cap k0 w).mono ?_
    rintro e w' ⟨rfl, rfl⟩
    exact ⟨rfl, ⟨⟨o, cap, rfl⟩, fun h => absurd rfl h⟩, .inl ⟨rfl, rfl⟩⟩
  · refine (lawMarkR o P cap B k0 w hl hk0 hk1 (h2 hn)).mono ?_
    rintro e w' ⟨rfl, h3, h4⟩
    exact ⟨rfl, ⟨⟨o, cap, by rw [marksR_len]⟩, fun _ => h3.out⟩, .inr ⟨hn, h4.out⟩⟩
set_option maxRecDepth 20000 in
theorem lawHeldLs (v : Value) (n k0 : Nat) (w : World) (hl : n ≤ 1048576) (hk0 : 0 < k0) (hk1 : k0 ≤ 1000000000000) (o : Option Addr) (c : Nat) (hv : v = .slice o n c) (h : Tx w.heap.size w o (marksR k0 n)) :
    Calls Tryz.prog 44 #[v, .int .i64 (k0 : Int)] w fun e w' => e = .returned (.int .i64 ((k0 + n : Nat) : Int)) ∧ Below w.heap.size w w' := by
  subst hv
  exact lawHeldR o n c 0 k0 w hl hk0 hk1 (fun i hi => by obtain ⟨a, h1, h2, h3⟩ := h i hi; exact ⟨a, h1, Nat.zero_le _, h2, h3⟩)
set_option maxRecDepth 20000 in
/-- Marks on a list of numbers that is empty or has a row of its own. -/
theorem lawMarkLn (v : Value) (P : List Int) (B k0 : Nat) (w : World) (hl : P.length ≤ 1048576) (hk1 : k0 ≤ 1000000000000) (h : LsN B w (v, P)) :
    Calls Tryz.prog 43 #[v, .int .i64 (k0 : Int)] w fun e w' => e = .returned (.int .i64 ((k0 + P.length : Nat) : Int)) ∧ Hid (LsN B w' (v, numsFrom k0 P.length)) ∧ Hid (P = [] ∧ w' = w ∨ P ≠ [] ∧ w.grownBy w' v.ownBlock) := by
  obtain ⟨⟨o, cap, e⟩, h2⟩ := h
  dsimp only at e h2
  subst e
  by_cases hn : P = []
  · subst hn
    refine (lawMarkI0 o cap k0 w).mono ?_
    rintro e w' ⟨rfl, rfl⟩
    exact ⟨rfl, ⟨⟨o, cap, rfl⟩, fun h => absurd rfl h⟩, .inl ⟨rfl, rfl⟩⟩
  · refine (lawMarkInts o P cap B k0 w hl hk1 (h2 hn)).mono ?_
    rintro e w' ⟨rfl, h3, h4⟩
    exact ⟨rfl, ⟨⟨o, cap, by rw [nums_len]⟩, fun _ => h3.out⟩, .inr ⟨hn, h4.out⟩⟩
set_option maxRecDepth 20000 in
theorem lawHeldLn (v : Value) (n k0 : Nat) (w : World) (hl : n ≤ 1048576) (hk1 : k0 ≤ 1000000000000) (o : Option Addr) (c : Nat) (hv : v = .slice o n c) (h : Ints w.heap.size w o (numsFrom k0 n)) :
    Calls Tryz.prog 45 #[v, .int .i64 (k0 : Int)] w fun e w' => e = .returned (.int .i64 ((k0 + n : Nat) : Int)) ∧ Below w.heap.size w w' := by
  subst hv
  refine (lawHeldInts o n c 0 k0 w hl hk1 (fun i hi => by obtain ⟨a, h1, h2, h3⟩ := h i hi; exact ⟨a, h1, Nat.zero_le _, h2, h3⟩)).mono ?_
  rintro e w' ⟨rfl, rfl⟩
  exact ⟨rfl, Below.refl _ _⟩
set_option maxRecDepth 20000 in
theorem far_len {a b : Sl} {P : List ByteArray} (h : FarX a b) (hP : P = [] ↔ b.2 = []) : FarX a (b.1, P) := by
  rcases h with h | h | h
  · exact .inl h
  · exact .inr (.inl (hP.2 h))
  · exact .inr (.inr h)
set_option maxRecDepth 20000 in
/-- The texts of one list are other texts now. -/
theorem slots_turn {B : Nat} {S : List Sl} {w w' : World} (own : ∀ s ∈ S, LsX B w s) (sep : S.Pairwise FarX) (m : Nat) (v : Value) (P P' : List ByteArray) (hm : S[m]? = some (v, P)) (hP : P' = [] ↔ P = [])
    (hn : LsX B w' (v, P')) (hg : P = [] ∧ w' = w ∨ P ≠ [] ∧ w.grownBy w' v.ownBlock) : (∀ s ∈ S.set m (v, P'), LsX B w' s) ∧ (S.set m (v, P')).Pairwise FarX := by
  have hml : m < S.length := by
    by_cases h : m < S.length
    · exact h
    · rw [List.getElem?_eq_none (by omega)] at hm
      cases hm
  have hm' : S[m] = (v, P) := by
    rw [List.getElem?_eq_getElem hml] at hm
    exact Option.some.inj hm
  rw [List.pairwise_iff_getElem] at sep
  constructor
  · intro s hs
    obtain ⟨k, hk, rfl⟩ := List.mem_iff_getElem.1 hs
    rw [List.length_set] at hk
    rw [List.getElem_set]
    split
    · exact hn
    · rename_i hne
      have hl := own S[k] (List.getElem_mem hk)
      rcases hg with ⟨-, rfl⟩ | ⟨hne0, hg⟩
      · exact hl
      · refine hl.keep hg ?_
        have hf : FarX S[k] (v, P) := by
          rw [← hm']
          rcases Nat.lt_or_gt_of_ne hne with h | h
          · exact (sep m k hml hk h).symm
          · exact sep k m hk hml h
        rcases hf with h | h | h
        · exact .inl h
        · exact absurd h hne0
        · exact .inr (.inr h)
  · rw [List.pairwise_iff_getElem]
    intro a b ha hb hab
    rw [List.length_set] at ha hb
    have hf := sep a b ha hb hab
    rw [List.getElem_set, List.getElem_set]
    split
    · rename_i e
      subst e
      rw [if_neg (by omega)]
      rw [hm'] at hf
      exact (far_len hf.symm hP).symm
    · split
      · rename_i e
        subst e
        rw [hm'] at hf
        exact far_len hf hP
      · exact hf
set_option maxRecDepth 20000 in
theorem far_lenN {a b : Sn} {P : List Int} (h : FarN a b) (hP : P = [] ↔ b.2 = []) : FarN a (b.1, P) := by
  rcases h with h | h | h
  · exact .inl h
  · exact .inr (.inl (hP.2 h))
  · exact .inr (.inr h)
set_option maxRecDepth 20000 in
/-- The texts of one list are other texts now. -/
theorem kslots_turn {B : Nat} {S : List Sn} {w w' : World} (own : ∀ s ∈ S, LsN B w s) (sep : S.Pairwise FarN) (m : Nat) (v : Value) (P P' : List Int) (hm : S[m]? = some (v, P)) (hP : P' = [] ↔ P = [])
    (hn : LsN B w' (v, P')) (hg : P = [] ∧ w' = w ∨ P ≠ [] ∧ w.grownBy w' v.ownBlock) : (∀ s ∈ S.set m (v, P'), LsN B w' s) ∧ (S.set m (v, P')).Pairwise FarN := by
  have hml : m < S.length := by
    by_cases h : m < S.length
    · exact h
    · rw [List.getElem?_eq_none (by omega)] at hm
      cases hm
  have hm' : S[m] = (v, P) := by
    rw [List.getElem?_eq_getElem hml] at hm
    exact Option.some.inj hm
  rw [List.pairwise_iff_getElem] at sep
  constructor
  · intro s hs
    obtain ⟨k, hk, rfl⟩ := List.mem_iff_getElem.1 hs
    rw [List.length_set] at hk
    rw [List.getElem_set]
    split
    · exact hn
    · rename_i hne
      have hl := own S[k] (List.getElem_mem hk)
      rcases hg with ⟨-, rfl⟩ | ⟨hne0, hg⟩
      · exact hl
      · refine hl.keep hg ?_
        have hf : FarN S[k] (v, P) := by
          rw [← hm']
          rcases Nat.lt_or_gt_of_ne hne with h | h
          · exact (sep m k hml hk h).symm
          · exact sep k m hk hml h
        rcases hf with h | h | h
        · exact .inl h
        · exact absurd h hne0
        · exact .inr (.inr h)
  · rw [List.pairwise_iff_getElem]
    intro a b ha hb hab
    rw [List.length_set] at ha hb
    have hf := sep a b ha hb hab
    rw [List.getElem_set, List.getElem_set]
    split
    · rename_i e
      subst e
      rw [if_neg (by omega)]
      rw [hm'] at hf
      exact (far_lenN hf.symm hP).symm
    · split
      · rename_i e
        subst e
        rw [hm'] at hf
        exact far_lenN hf hP
      · exact hf
set_option maxRecDepth 20000 in
theorem marks_nil (k : Nat) (P : List ByteArray) : marksR k P.length = [] ↔ P = [] := by
  rw [← List.length_eq_zero_iff, marksR_len, List.length_eq_zero_iff]
set_option maxRecDepth 20000 in
theorem nums_nil (k : Nat) (P : List Int) : numsFrom k P.length = [] ↔ P = [] := by
  rw [← List.length_eq_zero_iff, nums_len, List.length_eq_zero_iff]
end Go.Proofs.YtlphojaeaogehaaGreatDoor
namespace Go.Proofs.YtlphojaeaogehaaGreatDoor
open Go.RowKit Go.Lib Go.Maps
set_option maxRecDepth 20000 in
theorem ndCells_set (E : List NdE) : ∀ (i : Nat) (h : i < E.length) (j : Nat) (e' : NdE) (x : Value), j < 7 → cell7 e' = (cell7 E[i]).set j x → ndCells (E.set i e') = (ndCells E).set (i * 7 + j) x := by
  induction E with
  | nil => intro i h; exact absurd h (Nat.not_lt_zero _)
  | cons r t ih =>
    intro i h j e' x hj hc
    have e : ∀ (x : NdE) (l : List NdE), ndCells (x :: l) = cell7 x ++ ndCells l := fun _ _ => rfl
    cases i with
    | zero =>
      rw [List.set_cons_zero, e, e, hc, List.set_append_left _ _ (by rw [cell7_len]; omega), Nat.zero_mul, Nat.zero_add]
      rfl
    | succ i =>
      have h' : i < t.length := by simpa using h
      rw [List.set_cons_succ, e, e, ih i h' j e' x hj hc, List.set_append_right _ _ (by rw [cell7_len]; omega), cell7_len, show (i + 1) * 7 + j - 7 = i * 7 + j by omega]
set_option maxRecDepth 20000 in
theorem ndCells_same (E : List NdE) : ∀ (i : Nat) (h : i < E.length) (e' : NdE), cell7 e' = cell7 E[i] → ndCells (E.set i e') = ndCells E := by
  induction E with
  | nil => intro i h; exact absurd h (Nat.not_lt_zero _)
  | cons r t ih =>
    intro i h e' hc
    have e : ∀ (x : NdE) (l : List NdE), ndCells (x :: l) = cell7 x ++ ndCells l := fun _ _ => rfl
    cases i with
    | zero => rw [List.set_cons_zero, e, e, hc]; rfl
    | succ i => rw [List.set_cons_succ, e, e, ih i (by simpa using h) e' hc]
set_option maxRecDepth 20000 in
theorem slots_len (E : List NdE) : (slots E).length = E.length * 2 := by
  induction E with
  | nil => rfl
  | cons r t ih => simp only [slots, List.flatMap_cons, List.length_append, List.length_cons, List.length_nil] at ih ⊢; omega
set_option maxRecDepth 20000 in
theorem slots_set (E : List NdE) : ∀ (i : Nat), i < E.length → ∀ (e' : NdE), slots (E.set i e') = ((slots E).set (i * 2) (e'.2.1, e'.1.names)).set (i * 2 + 1) (e'.2.2.1, e'.1.keys) := by
  induction E with
  | nil => intro i h; exact absurd h (Nat.not_lt_zero _)
  | cons r t ih =>
    intro i h e'
    have e : ∀ (x : NdE) (l : List NdE), slots (x :: l) = [(x.2.1, x.1.names), (x.2.2.1, x.1.keys)] ++ slots l := fun _ _ => rfl
    cases i with
    | zero => rfl
    | succ i =>
      rw [List.set_cons_succ, e, e, ih i (by simpa using h) e', show (i + 1) * 2 = i * 2 + 2 by omega, show i * 2 + 2 + 1 = (i * 2 + 1) + 2 by omega]
      rfl
set_option maxRecDepth 20000 in
theorem slots_at (E : List NdE) : ∀ (i : Nat) (h : i < E.length), (slots E)[i * 2]? = some (E[i].2.1, E[i].1.names) ∧ (slots E)[i * 2 + 1]? = some (E[i].2.2.1, E[i].1.keys) := by
  induction E with
  | nil => intro i h; exact absurd h (Nat.not_lt_zero _)
  | cons r t ih =>
    intro i h
    have e : ∀ (x : NdE) (l : List NdE), slots (x :: l) = (x.2.1, x.1.names) :: (x.2.2.1, x.1.keys) :: slots l := fun _ _ => rfl
    cases i with
    | zero => rw [e]; exact ⟨rfl, rfl⟩
    | succ i =>
      rw [e, show (i + 1) * 2 = i * 2 + 2 by omega, show i * 2 + 2 + 1 = (i * 2 + 1) + 2 by omega]
      exact ih i (by simpa using h)
set_option maxRecDepth 20000 in
theorem kslots_set (E : List NdE) (i : Nat) (e' : NdE) : kslots (E.set i e') = (kslots E).set i (e'.2.2.2, e'.1.kids) := by
  unfold kslots
  rw [List.map_set]
set_option maxRecDepth 20000 in
theorem kslots_at (E : List NdE) (i : Nat) (h : i < E.length) : (kslots E)[i]? = some (E[i].2.2.2, E[i].1.kids) := by
  unfold kslots
  rw [List.getElem?_map, List.getElem?_eq_getElem h]
  rfl
set_option maxRecDepth 20000 in
theorem set_sameL {α : Type} (L : List α) (i : Nat) (x : α) (h : L[i]? = some x) : L.set i x = L := by
  apply List.ext_getElem?
  intro k
  rw [List.getElem?_set]
  split
  · rename_i e
    subst e
    split
    · exact h.symm
    · rename_i hn
      rw [List.getElem?_eq_none (by omega)] at h
      cases h
  · rfl
set_option maxRecDepth 20000 in
theorem slots_same (E : List NdE) (i : Nat) (hi : i < E.length) (e' : NdE) (h1 : e'.2.1 = E[i].2.1) (h2 : e'.2.2.1 = E[i].2.2.1) (h3 : e'.1.names = E[i].1.names) (h4 : e'.1.keys = E[i].1.keys) : slots (E.set i e') = slots E := by
  obtain ⟨s1, s2⟩ := slots_at E i hi
  rw [slots_set E i hi e', h1, h2, h3, h4, set_sameL (slots E) _ _ s1, set_sameL (slots E) _ _ s2]
set_option maxRecDepth 20000 in
theorem kslots_same (E : List NdE) (i : Nat) (hi : i < E.length) (e' : NdE) (h1 : e'.2.2.2 = E[i].2.2.2) (h2 : e'.1.kids = E[i].1.kids) : kslots (E.set i e') = kslots E := by
  rw [kslots_set, h1, h2, set_sameL _ _ _ (kslots_at E i hi)]
set_option maxRecDepth 20000 in
/-- A number or a text of a node is written. -/
theorem Nt.put1n {B g cap n : Nat} {E : List NdE} {w : World} (h : Nt B (.slice (some ⟨g, 0, none⟩) n cap) E w) (hn : E.length = n) (i : Nat) (hi : i < E.length) (j : Nat) (e' : NdE) (x : Value) (hj : j < 7) (hc : cell7 e' = (cell7 E[i]).set j x)
    (h1 : e'.2 = E[i].2) (h3 : e'.1.names = E[i].1.names) (h4 : e'.1.keys = E[i].1.keys) (h5 : e'.1.kids = E[i].1.kids) :
    Nt B (.slice (some ⟨g, 0, none⟩) n cap) (E.set i e') (w.setCell ⟨g, i * 7 + j, none⟩ x) := by
  subst hn
  obtain ⟨hst, hsg⟩ := World.ownsRow.stored h.row (i * 7 + j) x
  have hsl := slots_same E i hi e' (by rw [h1]) (by rw [h1]) h3 h4
  have hkl := kslots_same E i hi e' (by rw [h1]) h5
  refine ⟨?_, ?_, ?_, ?_, ?_⟩
  · rw [List.length_set, ndCells_set E i hi j e' x hj hc]
    exact hst
  · intro s hs
    rw [hsl] at hs
    exact (h.own s hs).keep hsg (h.rowfar s hs)
  · rw [hsl]
    exact h.sep
  · intro s hs
    rw [hkl] at hs
    exact (h.ownN s hs).keep hsg (h.rowfarN s hs)
  · rw [hkl]
    exact h.sepN
set_option maxRecDepth 20000 in
theorem rowN_turn {B B' t e1 s1 : Nat} {v v' : Value} {n m : Nat} {xs ys : List Value} {w w' : World} {p : Prop} (h : w.ownsRow B t s1 v n xs) (hl : ¬ p → w.ownsRow B' e1 1 v' m ys) (ht : t ≠ e1) (hg : p ∧ w' = w ∨ ¬ p ∧ w.grownBy w' v'.ownBlock) : w'.ownsRow B t s1 v n xs := by
  rcases hg with ⟨-, rfl⟩ | ⟨hn, hg⟩
  · exact h
  · exact World.ownsRow.kept h hg (own_apart9 h (hl hn) ht)
set_option maxRecDepth 20000 in
/-- Marks on a node's names. -/
theorem Nt.namesN {B g cap n : Nat} {E : List NdE} {w w' : World} (h : Nt B (.slice (some ⟨g, 0, none⟩) n cap) E w) (hl : E.length = n) (i : Nat) (hi : i < E.length) (k : Nat) (P : List ByteArray) (v : Value) (eP : E[i].1.names = P) (ev : E[i].2.1 = v)
    (hn : LsX B w' (v, marksR k P.length)) (hg : P = [] ∧ w' = w ∨ P ≠ [] ∧ w.grownBy w' v.ownBlock) :
    Nt B (.slice (some ⟨g, 0, none⟩) n cap) (E.set i ({ E[i].1 with names := marksR k P.length }, E[i].2)) w' := by
  subst eP ev hl
  obtain ⟨s1, s2⟩ := slots_at E i hi
  have hsl : slots (E.set i ({ E[i].1 with names := marksR k E[i].1.names.length }, E[i].2)) = (slots E).set (i * 2) (E[i].2.1, marksR k E[i].1.names.length) := by
    rw [slots_set E i hi]
    refine set_sameL _ _ _ ?_
    rw [List.getElem?_set_ne (by omega)]
    exact s2
  have hkl : kslots (E.set i ({ E[i].1 with names := marksR k E[i].1.names.length }, E[i].2)) = kslots E := kslots_same E i hi _ rfl rfl
  have hls := h.own (E[i].2.1, E[i].1.names) (List.mem_of_getElem? s1)
  obtain ⟨t1, t2⟩ := slots_turn h.own h.sep (i * 2) E[i].2.1 E[i].1.names _ s1 (marks_nil k _) hn hg
  refine ⟨?_, by rw [hsl]; exact t1, by rw [hsl]; exact t2, ?_, by rw [hkl]; exact h.sepN⟩
  · rw [List.length_set, ndCells_same E i hi ({ E[i].1 with names := marksR k E[i].1.names.length }, E[i].2) rfl]
    exact rowN_turn h.row (fun hn => hls.2 hn) (by decide) hg
  · intro s hs
    rw [hkl] at hs
    exact ⟨(h.ownN s hs).1, fun hn => rowN_turn ((h.ownN s hs).2 hn) (fun hn => hls.2 hn) (by decide) hg⟩
set_option maxRecDepth 20000 in
/-- Marks on a node's keys. -/
theorem Nt.keysN {B g cap n : Nat} {E : List NdE} {w w' : World} (h : Nt B (.slice (some ⟨g, 0, none⟩) n cap) E w) (hl : E.length = n) (i : Nat) (hi : i < E.length) (k : Nat) (P : List ByteArray) (v : Value) (eP : E[i].1.keys = P) (ev : E[i].2.2.1 = v)
    (hn : LsX B w' (v, marksR k P.length)) (hg : P = [] ∧ w' = w ∨ P ≠ [] ∧ w.grownBy w' v.ownBlock) :
    Nt B (.slice (some ⟨g, 0, none⟩) n cap) (E.set i ({ E[i].1 with keys := marksR k P.length }, E[i].2)) w' := by
  subst eP ev hl
  obtain ⟨s1, s2⟩ := slots_at E i hi
  have hsl : slots (E.set i ({ E[i].1 with keys := marksR k E[i].1.keys.length }, E[i].2)) = (slots E).set (i * 2 + 1) (E[i].2.2.1, marksR k E[i].1.keys.length) := by
    rw [slots_set E i hi]
    dsimp only
    rw [set_sameL (slots E) _ _ s1]
  have hkl : kslots (E.set i ({ E[i].1 with keys := marksR k E[i].1.keys.length }, E[i].2)) = kslots E := kslots_same E i hi _ rfl rfl
  have hls := h.own (E[i].2.2.1, E[i].1.keys) (List.mem_of_getElem? s2)
  obtain ⟨t1, t2⟩ := slots_turn h.own h.sep (i * 2 + 1) E[i].2.2.1 E[i].1.keys _ s2 (marks_nil k _) hn hg
  refine ⟨?_, by rw [hsl]; exact t1, by rw [hsl]; exact t2, ?_, by rw [hkl]; exact h.sepN⟩
  · rw [List.length_set, ndCells_same E i hi ({ E[i].1 with keys := marksR k E[i].1.keys.length }, E[i].2) rfl]
    exact rowN_turn h.row (fun hn => hls.2 hn) (by decide) hg
  · intro s hs
    rw [hkl] at hs
    exact ⟨(h.ownN s hs).1, fun hn => rowN_turn ((h.ownN s hs).2 hn) (fun hn => hls.2 hn) (by decide) hg⟩
set_option maxRecDepth 20000 in
/-- Marks on a node's kids. -/
theorem Nt.kidsN {B g cap n : Nat} {E : List NdE} {w w' : World} (h : Nt B (.slice (some ⟨g, 0, none⟩) n cap) E w) (hl : E.length = n) (i : Nat) (hi : i < E.length) (k : Nat) (P : List Int) (v : Value) (eP : E[i].1.kids = P) (ev : E[i].2.2.2 = v)
    (hn : LsN B w' (v, numsFrom k P.length)) (hg : P = [] ∧ w' = w ∨ P ≠ [] ∧ w.grownBy w' v.ownBlock) :
    Nt B (.slice (some ⟨g, 0, none⟩) n cap) (E.set i ({ E[i].1 with kids := numsFrom k P.length }, E[i].2)) w' := by
  subst eP ev hl
  have s1 := kslots_at E i hi
  have hkl : kslots (E.set i ({ E[i].1 with kids := numsFrom k E[i].1.kids.length }, E[i].2)) = (kslots E).set i (E[i].2.2.2, numsFrom k E[i].1.kids.length) := kslots_set E i _
  have hsl : slots (E.set i ({ E[i].1 with kids := numsFrom k E[i].1.kids.length }, E[i].2)) = slots E := slots_same E i hi _ rfl rfl rfl rfl
  have hls := h.ownN (E[i].2.2.2, E[i].1.kids) (List.mem_of_getElem? s1)
  obtain ⟨t1, t2⟩ := kslots_turn h.ownN h.sepN i E[i].2.2.2 E[i].1.kids _ s1 (nums_nil k _) hn hg
  refine ⟨?_, ?_, by rw [hsl]; exact h.sep, by rw [hkl]; exact t1, by rw [hkl]; exact t2⟩
  · rw [List.length_set, ndCells_same E i hi ({ E[i].1 with kids := numsFrom k E[i].1.kids.length }, E[i].2) rfl]
    exact rowN_turn h.row (fun hn => hls.2 hn) (by decide) hg
  · intro s hs
    rw [hsl] at hs
    exact ⟨(h.own s hs).1, fun hn => rowN_turn ((h.own s hs).2 hn) (fun hn => hls.2 hn) (by decide) hg⟩
end Go.Proofs.YtlphojaeaogehaaGreatDoor
