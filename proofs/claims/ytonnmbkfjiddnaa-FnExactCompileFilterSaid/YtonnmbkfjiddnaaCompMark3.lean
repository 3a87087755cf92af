
/- What marks a place: plain, and the law's own walk. -/

/- The law's marks on texts, from any number on; on lists that are empty; on instructions: what turns. -/

/- The law's marks on instructions that were answered. -/

/- The law's marks on instructions, looked for. -/
import Derived.Test.YtonnmbkfjiddnaaGenBase
import Derived.Deep.QuietTactic
import Derived.BigQuiet
import Derived.Deep.RegionWith
import Derived.Test.YtonnmbkfjiddnaaCompSpec1
import Derived.OrdersHeld
namespace Go.Proofs.Ytonnmbkfjiddnaa
open Go.RowKit Go.Lib Go.Maps
namespace Pl

def dg : Nat → Nat → List UInt8 → List UInt8
  | 0, _, out => out
  | f + 1, n, out => if n = 0 then out else dg f (n / 10) (UInt8.ofNat (48 + n % 10) :: out)

/-- What marks place n. -/
def mark (n : Nat) : List UInt8 := 109 :: dg n n []

theorem dg_zero (f : Nat) (out : List UInt8) : dg f 0 out = out := by
  cases f <;> simp [dg]
theorem dg_step (f n : Nat) (out : List UInt8) (h : 0 < n) (hf : n ≤ f) : dg f n out = dg (f - 1) (n / 10) (UInt8.ofNat (48 + n % 10) :: out) := by
  obtain ⟨g, rfl⟩ : ∃ g, f = g + 1 := ⟨f - 1, by omega⟩
  rw [dg, if_neg (by omega)]
  rfl
theorem cat_mk (a b : List UInt8) : (⟨a.toArray⟩ : ByteArray) ++ ⟨b.toArray⟩ = ⟨(a ++ b).toArray⟩ := by
  apply ByteArray.ext
  simp
end Pl
set_option maxHeartbeats 400000 in
theorem markText (n : Nat) (w : World) (h0 : 0 < n) (hn : n ≤ 10000000000000) :
    Calls Try.prog 23 #[.int .i64 n] w fun e w' => e = .returned (.string ⟨(Pl.mark n).toArray⟩) ∧ Below w.heap.size w w' := by
  have ht : decide ((n : Int) ≤ 0) = false := by simp; omega
  go_enter Try.func23, Try.ntmps23
  go_wp2
  go_loopw [0, 3] (fun t v wr => ∃ (f k : Nat) (out : List UInt8), t = .int .i64 k ∧ v = .string ⟨out.toArray⟩ ∧ k ≤ n ∧ out.length + k ≤ n ∧ k ≤ f ∧ Hid (Pl.dg f k out = Pl.dg n n []) ∧ Below w.heap.size w wr) (fun t _ _ => (RowKit.intOf t).toNat)
  case atStart => exact ⟨n, n, [], rfl, rfl, Nat.le_refl _, by simp, Nat.le_refl _, rfl, Below.refl _ _⟩
  case round =>
    obtain ⟨f, k, out, rfl, rfl, hk, hl, hf, hd, hb⟩ := hrel
    by_cases hk0 : 0 < k
    · have hst := Pl.dg_step f k out hk0 hf
      have hu : ((UInt8.ofNat (48 + k % 10)).toNat : Int) = 48 + (k : Int) % 10 := by
        rw [UInt8.toNat_ofNat_of_lt' (by simp [UInt8.size]; omega)]
        omega
      generalize UInt8.ofNat (48 + k % 10) = d at hst hu
      have Hst := mkHid hst
      have hcv : (convert 70 9 (.slice (some ⟨wr.heap.size, 0, none⟩) 1 1)).run Try.prog (wr.alloc (.cells #[.int .u8 (48 + (k : Int) % 10)] 5)) = .ok (.string ⟨#[d]⟩) (wr.alloc (.cells #[.int .u8 (48 + (k : Int) % 10)] 5)) := by
        refine run_convert_bytes_back (P := Try.prog) _ 70 9 5 ⟨wr.heap.size, 0, none⟩ 1 [d] Try.underlying70 Try.underlying5 Try.underlying9 ?_
        intro j hj
        match j, hj with
        | 0, hj => rw [add_off]; simp only [List.getElem_cons_zero, hu]; simp
      have hbs := hb.size
      clear hu hst
      go_wp2
      go_roundw
      case rel => exact ⟨f - 1, k / 10, d :: out, by go_num, congrArg Value.string (Pl.cat_mk [d] out), by omega, by simp; omega, by omega, (Hst.out.symm.trans hd.out), hb.alloc hbs _⟩
      case measure => simp [RowKit.intOf]; omega
    · have hk0' : k = 0 := by omega
      subst hk0'
      have hd' : Hid (out = Pl.dg n n []) := by have := hd.out; rw [Pl.dg_zero] at this; exact this
      clear hd
      go_wp2
      go_ret
      refine ⟨?_, hb⟩
      rw [Pl.mark, ← hd'.out]
      exact congrArg (fun x => Ending.returned (Value.string x)) (Pl.cat_mk [109] out)
end Go.Proofs.Ytonnmbkfjiddnaa
namespace Go.Proofs.Ytonnmbkfjiddnaa
open Go.RowKit Go.Lib Go.Maps
def markR (n : Nat) : ByteArray := ⟨(Pl.mark n).toArray⟩
/-- n marks from k on. -/
def marksR (k n : Nat) : List ByteArray := (List.range n).map fun j => markR (k + j)
theorem marksR_len (k n : Nat) : (marksR k n).length = n := by simp [marksR]
theorem marksR_get (k n j : Nat) (h : j < (marksR k n).length) : (marksR k n)[j] = markR (k + j) := by simp [marksR]
theorem marksR_set (k : Nat) (P : List ByteArray) (i : Nat) (h : i < P.length) : (marksR k i ++ P.drop i).set i (markR (k + i)) = marksR k (i + 1) ++ P.drop (i + 1) := by
  rw [List.drop_eq_getElem_cons h]
  have e : marksR k (i + 1) = marksR k i ++ [markR (k + i)] := by simp [marksR, List.range_succ]
  rw [e, List.set_append, if_neg (by rw [marksR_len]; omega), marksR_len, Nat.sub_self, List.set_cons_zero, List.append_assoc]
  rfl
theorem grownBelowR {w w' : World} {r : Option Nat} (hb : Below w.heap.size w w') : w.grownBy w' r := ⟨hb.os, hb.tape, hb.output, hb.size, fun k hk _ => hb.block k hk⟩
set_option maxHeartbeats 1000000 in
theorem lawMarkR (o : Option Addr) (P : List ByteArray) (cap B k0 : Nat) (w : World) (hl : P.length ≤ 1048576) (hk0 : 0 < k0) (hk1 : k0 ≤ 1000000000000) (h : OwnX B (.slice o P.length cap) P w) :
    Calls Try.prog 24 #[.slice o P.length cap, .int .i64 (k0 : Int)] w fun e w' => e = .returned (.int .i64 ((k0 + P.length : Nat) : Int)) ∧ Hid (OwnX B (.slice o P.length cap) (marksR k0 P.length) w') ∧ Hid (w.grownBy w' (Value.slice o P.length cap).ownBlock) := by
  have H := mkHid h
  clear h
  go_enter Try.func24, Try.ntmps24
  go_wp2
  go_loopw [1, 5] (fun m i wr => ∃ k q : Nat, k ≤ P.length ∧ i = .int .i64 k ∧ m = .int .i64 (q : Int) ∧ Hid (q = k0 + k) ∧ Hid (OwnX B (.slice o P.length cap) (marksR k0 k ++ P.drop k) wr) ∧ Hid (w.grownBy wr (Value.slice o P.length cap).ownBlock)) (fun _ i _ => P.length - (Lib.intOf i).toNat)
  case atStart => exact ⟨0, k0, Nat.zero_le _, rfl, rfl, rfl, H, ⟨rfl, rfl, rfl, Nat.le_refl _, fun _ _ _ => rfl⟩⟩
  case round =>
    clear H
    obtain ⟨k, q, hk, rfl, rfl, hq, hown, hg⟩ := hrel
    have hqb : q ≤ 1000001048576 := by have := hq.out; omega
    have hq0 : 0 < q := by have := hq.out; omega
    by_cases hlt : k < P.length
    · have hlen : (marksR k0 k ++ P.drop k).length = P.length := by simp [marksR_len]; omega
      have hset := mkHid (marksR_set k0 P k hlt)
      rw [show k0 + k = q by have := hq.out; omega] at hset
      have cT := mkHid (markText q wr hq0 (by omega))
      generalize marksR k0 k ++ P.drop k = cur at *
      go_wp2_with fail
      refine cT.out.mono ?_
      rintro e w1 ⟨rfl, hb⟩
      have hown' := hown.out.below hb
      unfold OwnX at hown'
      rw [hlen] at hown'
      rcases hown'.2 with ⟨h1, h0⟩ | ⟨g, cap', cr, h1, hB, -⟩
      · omega
      · simp only [Value.slice.injEq] at h1
        obtain ⟨rfl, -, rfl⟩ := h1
        have hcl : k < (strCellsX cur).length := by simp [strCellsX]; omega
        have d0 : w1.cell? ⟨g, k, none⟩ = some ((strCellsX cur)[k]) := by rw [World.ownsRow.cellAt hown' k (by omega)]; exact List.getElem?_eq_getElem hcl
        have z0 := World.ownsRow.frozenAt hown' k
        have hst := World.ownsRow.stored hown' k (.string (markR q))
        have hn : Hid (OwnX B (.slice (some ⟨g, 0, none⟩) P.length cap) (marksR k0 (k + 1) ++ P.drop (k + 1)) (w1.setCell ⟨g, k, none⟩ (.string (markR q)))) := by
          rw [← hset.out]
          show World.ownsRow _ _ _ _ _ _ _
          rw [List.length_set, hlen, strCellsX, List.map_set]
          exact hst.1
        have hg2 : Hid (w.grownBy (w1.setCell ⟨g, k, none⟩ (.string (markR q))) (Value.slice (some ⟨g, 0, none⟩) P.length cap).ownBlock) := grG_trans (grG_trans hg.out (grownBelowR hb)) hst.2
        have hadd := add_off g k
        generalize (strCellsX cur)[k] = y0 at d0
        unfold markR at hn hg2
        clear hown' hst hset hown hg hcl cT hb hlen hB
        go_wp2
        go_roundw
        case rel => exact ⟨k + 1, q + 1, by omega, by go_num, by go_num, by show _ = _; have := hq.out; omega, hn, hg2⟩
        case measure => simp [Lib.intOf]; omega
    · have hkl : Hid (k = P.length) := Nat.le_antisymm hk (by omega)
      have hn : Hid (OwnX B (.slice o P.length cap) (marksR k0 P.length) wr) := by
        have := hown.out
        rw [hkl.out, List.drop_length, List.append_nil] at this
        exact this
      clear hown
      go_wp2
      go_ret
      exact ⟨by rw [hq.out, hkl.out]; first | rfl | (simp; done), hn, hg⟩
set_option maxHeartbeats 1000000 in
theorem lawHeldR (o : Option Addr) (n cap lo k0 : Nat) (w : World) (hl : n ≤ 1048576) (hk0 : 0 < k0) (hk1 : k0 ≤ 1000000000000) (h : TxL lo w.heap.size w o (marksR k0 n)) :
    Calls Try.prog 26 #[.slice o n cap, .int .i64 (k0 : Int)] w fun e w' => e = .returned (.int .i64 ((k0 + n : Nat) : Int)) ∧ Below w.heap.size w w' := by
  have H := mkHid h
  clear h
  go_enter Try.func26, Try.ntmps26
  go_wp2
  go_loopw [1, 5] (fun m i wr => ∃ k q : Nat, k ≤ n ∧ i = .int .i64 k ∧ m = .int .i64 (q : Int) ∧ Hid (q = k0 + k) ∧ Hid (Below w.heap.size w wr)) (fun _ i _ => n - (Lib.intOf i).toNat)
  case atStart => exact ⟨0, k0, Nat.zero_le _, rfl, rfl, rfl, Below.refl _ _⟩
  case round =>
    obtain ⟨k, q, hk, rfl, rfl, hq, hb⟩ := hrel
    have hqb : q ≤ 1000001048576 := by have := hq.out; omega
    have hq0 : 0 < q := by have := hq.out; omega
    by_cases hlt : k < n
    · obtain ⟨a, rfl, -, hlta, hc1⟩ := (H.out.below hb.out (Nat.le_refl _)) k (by rw [marksR_len]; exact hlt)
      rw [marksR_get, show k0 + k = q by have := hq.out; omega] at hc1
      have hla : (a.add k).block < wr.heap.size := by rw [add_blockG]; exact Nat.lt_of_lt_of_le hlta hb.out.size
      have Hc := mkHid (fun (w2 : World) (hb2 : Below wr.heap.size wr w2) => (hb2.cell (p := a.add k) hla).trans hc1)
      have hmk := mkHid (fun W => markText q W hq0 (by omega))
      unfold markR at hc1 Hc
      have zq : ∀ x : ByteArray, (x.toList != x.toList) = false := fun x => by simp
      have zq2 := zq ⟨(Pl.mark q).toArray⟩
      generalize (⟨(Pl.mark q).toArray⟩ : ByteArray) = x at *
      have hbr : Below wr.heap.size wr wr := Below.refl _ _
      clear H zq
      go_wp2
      go_region_with (go_at_call 23; (refine (hmk.out _).mono ?_; rintro e w2 ⟨rfl, hb2⟩; have hr2 := Hc.out w2 (((Below.refl wr.heap.size wr).drew).trans hb2)))
      all_goals
        have hbw := mkHid (hb.out.drew.trans (hb2.mono hb.out.size))
        go_wp2
        go_roundw
        case rel => exact ⟨k + 1, q + 1, by omega, by go_num, by go_num, by show _ = _; have := hq.out; omega, hbw⟩
        case measure => simp [Lib.intOf]; omega
    · have hkl : Hid (k = n) := Nat.le_antisymm hk (by omega)
      go_wp2
      go_ret
      exact ⟨by rw [hq.out, hkl.out]; first | rfl | (simp; done), hb.out⟩
theorem lawMarkR0 (o : Option Addr) (cap : Nat) (k0 : Nat) (w : World) :
    Calls Try.prog 24 #[.slice o 0 cap, .int .i64 (k0 : Int)] w fun e w' => e = .returned (.int .i64 (k0 : Int)) ∧ w' = w := by
  go_enter Try.func24, Try.ntmps24
  go_wp2
  go_loopw [1, 5] (fun m i wr => m = .int .i64 (k0 : Int) ∧ i = .int .i64 0 ∧ wr = w) (fun _ _ _ => 0)
  case atStart => exact ⟨rfl, rfl, rfl⟩
  case round =>
    obtain ⟨rfl, rfl, rfl⟩ := hrel
    go_wp2
    go_ret
    exact ⟨rfl, rfl⟩
theorem lawHeldR0 (o : Option Addr) (cap : Nat) (k0 : Nat) (w : World) :
    Calls Try.prog 26 #[.slice o 0 cap, .int .i64 (k0 : Int)] w fun e w' => e = .returned (.int .i64 (k0 : Int)) ∧ w' = w := by
  go_enter Try.func26, Try.ntmps26
  go_wp2
  go_loopw [1, 5] (fun m i wr => m = .int .i64 (k0 : Int) ∧ i = .int .i64 0 ∧ wr = w) (fun _ _ _ => 0)
  case atStart => exact ⟨rfl, rfl, rfl⟩
  case round =>
    obtain ⟨rfl, rfl, rfl⟩ := hrel
    go_wp2
    go_ret
    exact ⟨rfl, rfl⟩
theorem lawMarkI0 (o : Option Addr) (cap : Nat) (k0 : Nat) (w : World) :
    Calls Try.prog 25 #[.slice o 0 cap, .int .i64 (k0 : Int)] w fun e w' => e = .returned (.int .i64 (k0 : Int)) ∧ w' = w := by
  go_enter Try.func25, Try.ntmps25
  go_wp2
  go_loopw [1, 5] (fun m i wr => m = .int .i64 (k0 : Int) ∧ i = .int .i64 0 ∧ wr = w) (fun _ _ _ => 0)
  case atStart => exact ⟨rfl, rfl, rfl⟩
  case round =>
    obtain ⟨rfl, rfl, rfl⟩ := hrel
    go_wp2
    go_ret
    exact ⟨rfl, rfl⟩
theorem lawHeldI0 (o : Option Addr) (cap : Nat) (k0 : Nat) (w : World) :
    Calls Try.prog 27 #[.slice o 0 cap, .int .i64 (k0 : Int)] w fun e w' => e = .returned (.int .i64 (k0 : Int)) ∧ w' = w := by
  go_enter Try.func27, Try.ntmps27
  go_wp2
  go_loopw [1, 5] (fun m i wr => m = .int .i64 (k0 : Int) ∧ i = .int .i64 0 ∧ wr = w) (fun _ _ _ => 0)
  case atStart => exact ⟨rfl, rfl, rfl⟩
  case round =>
    obtain ⟨rfl, rfl, rfl⟩ := hrel
    go_wp2
    go_ret
    exact ⟨rfl, rfl⟩
/-- Marks on a list that is empty or has a row of its own. -/
theorem lawMarkLs (v : Value) (P : List ByteArray) (B k0 : Nat) (w : World) (hl : P.length ≤ 1048576) (hk0 : 0 < k0) (hk1 : k0 ≤ 1000000000000) (h : LsX B w (v, P)) :
    Calls Try.prog 24 #[v, .int .i64 (k0 : Int)] w fun e w' => e = .returned (.int .i64 ((k0 + P.length : Nat) : Int)) ∧ Hid (LsX B w' (v, marksR k0 P.length)) ∧ Hid (P = [] ∧ w' = w ∨ P ≠ [] ∧ w.grownBy w' v.ownBlock) := by
  obtain ⟨⟨o, cap, e⟩, h2⟩ := h
  dsimp only at e h2
  subst e
  by_cases hn : P = []
  · subst hn
    refine (lawMarkR0 o cap k0 w).mono ?_
    rintro e w' ⟨rfl, rfl⟩
    exact ⟨rfl, ⟨⟨o, cap, rfl⟩, fun h => absurd rfl h⟩, .inl ⟨rfl, rfl⟩⟩
  · refine (lawMarkR o P cap B k0 w hl hk0 hk1 (h2 hn)).mono ?_
    rintro e w' ⟨rfl, h3, h4⟩
    exact ⟨rfl, ⟨⟨o, cap, by rw [marksR_len]⟩, fun _ => h3.out⟩, .inr ⟨hn, h4.out⟩⟩
theorem lawHeldLs (v : Value) (n k0 : Nat) (w : World) (hl : n ≤ 1048576) (hk0 : 0 < k0) (hk1 : k0 ≤ 1000000000000) (o : Option Addr) (c : Nat) (hv : v = .slice o n c) (h : Tx w.heap.size w o (marksR k0 n)) :
    Calls Try.prog 26 #[v, .int .i64 (k0 : Int)] w fun e w' => e = .returned (.int .i64 ((k0 + n : Nat) : Int)) ∧ Below w.heap.size w w' := by
  subst hv
  exact lawHeldR o n c 0 k0 w hl hk0 hk1 (fun i hi => by obtain ⟨a, h1, h2, h3⟩ := h i hi; exact ⟨a, h1, Nat.zero_le _, h2, h3⟩)
theorem cdCells_set (E : List CdE) : ∀ (i : Nat) (h : i < E.length) (j : Nat) (e' : CdE) (x : Value), j < 9 → cell9 e' = (cell9 E[i]).set j x → cdCells (E.set i e') = (cdCells E).set (i * 9 + j) x := by
  induction E with
  | nil => intro i h; exact absurd h (Nat.not_lt_zero _)
  | cons r t ih =>
    intro i h j e' x hj hc
    have e : ∀ (x : CdE) (l : List CdE), cdCells (x :: l) = cell9 x ++ cdCells l := fun _ _ => rfl
    cases i with
    | zero =>
      rw [List.set_cons_zero, e, e, hc, List.set_append_left _ _ (by rw [cell9_len]; omega), Nat.zero_mul, Nat.zero_add]
      rfl
    | succ i =>
      have h' : i < t.length := by simpa using h
      rw [List.set_cons_succ, e, e, ih i h' j e' x hj hc, List.set_append_right _ _ (by rw [cell9_len]; omega), cell9_len, show (i + 1) * 9 + j - 9 = i * 9 + j by omega]
theorem cdCells_same (E : List CdE) : ∀ (i : Nat) (h : i < E.length) (e' : CdE), cell9 e' = cell9 E[i] → cdCells (E.set i e') = cdCells E := by
  induction E with
  | nil => intro i h; exact absurd h (Nat.not_lt_zero _)
  | cons r t ih =>
    intro i h e' hc
    have e : ∀ (x : CdE) (l : List CdE), cdCells (x :: l) = cell9 x ++ cdCells l := fun _ _ => rfl
    cases i with
    | zero => rw [List.set_cons_zero, e, e, hc]; rfl
    | succ i => rw [List.set_cons_succ, e, e, ih i (by simpa using h) e' hc]
theorem slots_len (E : List CdE) : (slots E).length = E.length * 2 := by
  induction E with
  | nil => rfl
  | cons r t ih => simp only [slots, List.flatMap_cons, List.length_append, List.length_cons, List.length_nil] at ih ⊢; omega
theorem slots_set (E : List CdE) : ∀ (i : Nat), i < E.length → ∀ (e' : CdE), slots (E.set i e') = ((slots E).set (i * 2) (e'.2.1, e'.1.nd.names)).set (i * 2 + 1) (e'.2.2.1, e'.1.nd.keys) := by
  induction E with
  | nil => intro i h; exact absurd h (Nat.not_lt_zero _)
  | cons r t ih =>
    intro i h e'
    have e : ∀ (x : CdE) (l : List CdE), slots (x :: l) = [(x.2.1, x.1.nd.names), (x.2.2.1, x.1.nd.keys)] ++ slots l := fun _ _ => rfl
    cases i with
    | zero => rfl
    | succ i =>
      rw [List.set_cons_succ, e, e, ih i (by simpa using h) e', show (i + 1) * 2 = i * 2 + 2 by omega, show i * 2 + 2 + 1 = (i * 2 + 1) + 2 by omega]
      rfl
theorem slots_at (E : List CdE) : ∀ (i : Nat) (h : i < E.length), (slots E)[i * 2]? = some (E[i].2.1, E[i].1.nd.names) ∧ (slots E)[i * 2 + 1]? = some (E[i].2.2.1, E[i].1.nd.keys) := by
  induction E with
  | nil => intro i h; exact absurd h (Nat.not_lt_zero _)
  | cons r t ih =>
    intro i h
    have e : ∀ (x : CdE) (l : List CdE), slots (x :: l) = (x.2.1, x.1.nd.names) :: (x.2.2.1, x.1.nd.keys) :: slots l := fun _ _ => rfl
    cases i with
    | zero => rw [e]; exact ⟨rfl, rfl⟩
    | succ i =>
      rw [e, show (i + 1) * 2 = i * 2 + 2 by omega, show i * 2 + 2 + 1 = (i * 2 + 1) + 2 by omega]
      exact ih i (by simpa using h)
/-- A number or a text of an instruction is written. -/
theorem Cw.put1 {B g cap : Nat} {E : List CdE} {w : World} (h : Cw B (.slice (some ⟨g, 0, none⟩) E.length cap) E w) (i : Nat) (hi : i < E.length) (j : Nat) (e' : CdE) (x : Value) (hj : j < 9) (hc : cell9 e' = (cell9 E[i]).set j x)
    (h1 : e'.2.1 = E[i].2.1) (h2 : e'.2.2.1 = E[i].2.2.1) (h3 : e'.1.nd.names = E[i].1.nd.names) (h4 : e'.1.nd.keys = E[i].1.nd.keys) (h5 : e'.1.nd.kids = [] ∧ ∃ o c, e'.2.2.2 = .slice o 0 c) :
    Cw B (.slice (some ⟨g, 0, none⟩) E.length cap) (E.set i e') (w.setCell ⟨g, i * 9 + j, none⟩ x) ∧ w.grownBy (w.setCell ⟨g, i * 9 + j, none⟩ x) (some g) := by
  obtain ⟨hst, hsg⟩ := World.ownsRow.stored h.row (i * 9 + j) x
  have hsl : slots (E.set i e') = slots E := by
    obtain ⟨s1, s2⟩ := slots_at E i hi
    rw [slots_set E i hi e', h1, h2, h3, h4]
    apply List.ext_getElem?
    intro k
    rw [List.getElem?_set, List.getElem?_set]
    split
    · rename_i e
      subst e
      rw [List.length_set, slots_len, if_pos (by omega)]
      exact s2.symm
    · split
      · rename_i e
        subst e
        rw [slots_len, if_pos (by omega)]
        exact s1.symm
      · rfl
  refine ⟨⟨?_, ?_, ?_, ?_⟩, hsg⟩
  · rw [List.length_set, cdCells_set E i hi j e' x hj hc]
    exact hst
  · intro s hs
    rw [hsl] at hs
    exact (h.own s hs).keep hsg (h.rowfar s hs)
  · rw [hsl]
    exact h.sep
  · intro y hy
    rcases List.mem_or_eq_of_mem_set hy with hy | rfl
    · exact h.kids y hy
    · exact h5
theorem Cw.put1n {B g cap n : Nat} {E : List CdE} {w : World} (h : Cw B (.slice (some ⟨g, 0, none⟩) n cap) E w) (hn : E.length = n) (i : Nat) (hi : i < E.length) (j : Nat) (e' : CdE) (x : Value) (hj : j < 9) (hc : cell9 e' = (cell9 E[i]).set j x)
    (h1 : e'.2.1 = E[i].2.1) (h2 : e'.2.2.1 = E[i].2.2.1) (h3 : e'.1.nd.names = E[i].1.nd.names) (h4 : e'.1.nd.keys = E[i].1.nd.keys) (h5 : e'.1.nd.kids = [] ∧ ∃ o c, e'.2.2.2 = .slice o 0 c) :
    Cw B (.slice (some ⟨g, 0, none⟩) n cap) (E.set i e') (w.setCell ⟨g, i * 9 + j, none⟩ x) := by
  subst hn
  exact (h.put1 i hi j e' x hj hc h1 h2 h3 h4 h5).1
theorem far_len {a b : Sl} {P : List ByteArray} (h : FarX a b) (hP : P = [] ↔ b.2 = []) : FarX a (b.1, P) := by
  rcases h with h | h | h
  · exact .inl h
  · exact .inr (.inl (hP.2 h))
  · exact .inr (.inr h)
/-- The texts of one list are other texts now. -/
theorem slots_turn {B : Nat} {S : List Sl} {w w' : World} (own : ∀ s ∈ S, LsX B w s) (sep : S.Pairwise FarX) (m : Nat) (v : Value) (P P' : List ByteArray) (hm : S[m]? = some (v, P)) (hP : P' = [] ↔ P = [])
    (hn : LsX B w' (v, P')) (hg : P = [] ∧ w' = w ∨ P ≠ [] ∧ w.grownBy w' v.ownBlock) : (∀ s ∈ S.set m (v, P'), LsX B w' s) ∧ (S.set m (v, P')).Pairwise FarX := by
  have hml : m < S.length := by
    by_cases h : m < S.length
    · exact h
    · rw [List.getElem?_eq_none (by omega)] at hm
      cases hm
  have hm' : S[m] = (v, P) := by
    rw [List.getElem?_eq_getElem hml] at hm
    exact Option.some.inj hm
  rw [List.pairwise_iff_getElem] at sep
  constructor
  · intro s hs
    obtain ⟨k, hk, rfl⟩ := List.mem_iff_getElem.1 hs
    rw [List.length_set] at hk
    rw [List.getElem_set]
    split
    · exact hn
    · rename_i hne
      have hl := own S[k] (List.getElem_mem hk)
      rcases hg with ⟨-, rfl⟩ | ⟨hne0, hg⟩
      · exact hl
      · refine hl.keep hg ?_
        have hf : FarX S[k] (v, P) := by
          rw [← hm']
          rcases Nat.lt_or_gt_of_ne hne with h | h
          · exact (sep m k hml hk h).symm
          · exact sep k m hk hml h
        rcases hf with h | h | h
        · exact .inl h
        · exact absurd h hne0
        · exact .inr (.inr h)
  · rw [List.pairwise_iff_getElem]
    intro a b ha hb hab
    rw [List.length_set] at ha hb
    have hf := sep a b ha hb hab
    rw [List.getElem_set, List.getElem_set]
    split
    · rename_i e
      subst e
      rw [if_neg (by omega)]
      rw [hm'] at hf
      exact (far_len hf.symm hP).symm
    · split
      · rename_i e
        subst e
        rw [hm'] at hf
        exact far_len hf hP
      · exact hf
theorem row_turn {B B' : Nat} {v v' : Value} {n : Nat} {xs : List Value} {P : List ByteArray} {w w' : World} (h : w.ownsRow B 50 9 v n xs) (hl : LsX B' w (v', P)) (hg : P = [] ∧ w' = w ∨ P ≠ [] ∧ w.grownBy w' v'.ownBlock) : w'.ownsRow B 50 9 v n xs := by
  rcases hg with ⟨-, rfl⟩ | ⟨hn, hg⟩
  · exact h
  · exact World.ownsRow.kept h hg (own_apart9 h (show w.ownsRow B' 9 1 _ _ _ from hl.2 hn) (by decide))
theorem marks_nil (k : Nat) (P : List ByteArray) : marksR k P.length = [] ↔ P = [] := by
  rw [← List.length_eq_zero_iff, marksR_len, List.length_eq_zero_iff]
/-- Marks on an instruction's names. -/
theorem Cw.names {B g cap : Nat} {E : List CdE} {w w' : World} (h : Cw B (.slice (some ⟨g, 0, none⟩) E.length cap) E w) (i : Nat) (hi : i < E.length) (k : Nat) (P : List ByteArray) (v : Value) (eP : E[i].1.nd.names = P) (ev : E[i].2.1 = v)
    (hn : LsX B w' (v, marksR k P.length)) (hg : P = [] ∧ w' = w ∨ P ≠ [] ∧ w.grownBy w' v.ownBlock) :
    Cw B (.slice (some ⟨g, 0, none⟩) E.length cap) (E.set i (⟨E[i].1.op, E[i].1.to, { E[i].1.nd with names := marksR k P.length }⟩, E[i].2)) w' := by
  subst eP ev
  obtain ⟨s1, s2⟩ := slots_at E i hi
  have hsl : slots (E.set i (⟨E[i].1.op, E[i].1.to, { E[i].1.nd with names := marksR k E[i].1.nd.names.length }⟩, E[i].2)) = (slots E).set (i * 2) (E[i].2.1, marksR k E[i].1.nd.names.length) := by
    rw [slots_set E i hi]
    apply List.ext_getElem?
    intro q
    rw [List.getElem?_set]
    split
    · rename_i e
      subst e
      rw [List.length_set, slots_len, if_pos (by omega), List.getElem?_set_ne (by omega)]
      exact s2.symm
    · rfl
  have hl := h.own (E[i].2.1, E[i].1.nd.names) (List.mem_of_getElem? s1)
  obtain ⟨t1, t2⟩ := slots_turn h.own h.sep (i * 2) E[i].2.1 E[i].1.nd.names _ s1 (marks_nil k _) hn hg
  refine ⟨?_, by rw [hsl]; exact t1, by rw [hsl]; exact t2, ?_⟩
  · rw [List.length_set, cdCells_same E i hi (⟨E[i].1.op, E[i].1.to, { E[i].1.nd with names := marksR k E[i].1.nd.names.length }⟩, E[i].2) rfl]
    exact row_turn h.row hl hg
  · intro y hy
    rcases List.mem_or_eq_of_mem_set hy with hy | rfl
    · exact h.kids y hy
    · exact h.kids E[i] (List.getElem_mem hi)
/-- Marks on an instruction's keys. -/
theorem Cw.keys {B g cap : Nat} {E : List CdE} {w w' : World} (h : Cw B (.slice (some ⟨g, 0, none⟩) E.length cap) E w) (i : Nat) (hi : i < E.length) (k : Nat) (P : List ByteArray) (v : Value) (eP : E[i].1.nd.keys = P) (ev : E[i].2.2.1 = v)
    (hn : LsX B w' (v, marksR k P.length)) (hg : P = [] ∧ w' = w ∨ P ≠ [] ∧ w.grownBy w' v.ownBlock) :
    Cw B (.slice (some ⟨g, 0, none⟩) E.length cap) (E.set i (⟨E[i].1.op, E[i].1.to, { E[i].1.nd with keys := marksR k P.length }⟩, E[i].2)) w' := by
  subst eP ev
  obtain ⟨s1, s2⟩ := slots_at E i hi
  have hsl : slots (E.set i (⟨E[i].1.op, E[i].1.to, { E[i].1.nd with keys := marksR k E[i].1.nd.keys.length }⟩, E[i].2)) = (slots E).set (i * 2 + 1) (E[i].2.2.1, marksR k E[i].1.nd.keys.length) := by
    rw [slots_set E i hi]
    apply List.ext_getElem?
    intro q
    by_cases e : i * 2 + 1 = q
    · subst e
      rw [List.getElem?_set_self (by rw [List.length_set, slots_len]; omega), List.getElem?_set_self (by rw [slots_len]; omega)]
    · rw [List.getElem?_set_ne e, List.getElem?_set_ne e]
      by_cases e2 : i * 2 = q
      · subst e2
        rw [List.getElem?_set_self (by rw [slots_len]; omega)]
        exact s1.symm
      · rw [List.getElem?_set_ne e2]
  have hl := h.own (E[i].2.2.1, E[i].1.nd.keys) (List.mem_of_getElem? s2)
  obtain ⟨t1, t2⟩ := slots_turn h.own h.sep (i * 2 + 1) E[i].2.2.1 E[i].1.nd.keys _ s2 (marks_nil k _) hn hg
  refine ⟨?_, by rw [hsl]; exact t1, by rw [hsl]; exact t2, ?_⟩
  · rw [List.length_set, cdCells_same E i hi (⟨E[i].1.op, E[i].1.to, { E[i].1.nd with keys := marksR k E[i].1.nd.keys.length }⟩, E[i].2) rfl]
    exact row_turn h.row hl hg
  · intro y hy
    rcases List.mem_or_eq_of_mem_set hy with hy | rfl
    · exact h.kids y hy
    · exact h.kids E[i] (List.getElem_mem hi)
theorem Cw.namesN {B g cap n : Nat} {E : List CdE} {w w' : World} (h : Cw B (.slice (some ⟨g, 0, none⟩) n cap) E w) (hl : E.length = n) (i : Nat) (hi : i < E.length) (k : Nat) (P : List ByteArray) (v : Value) (eP : E[i].1.nd.names = P) (ev : E[i].2.1 = v)
    (hn : LsX B w' (v, marksR k P.length)) (hg : P = [] ∧ w' = w ∨ P ≠ [] ∧ w.grownBy w' v.ownBlock) :
    Cw B (.slice (some ⟨g, 0, none⟩) n cap) (E.set i (⟨E[i].1.op, E[i].1.to, { E[i].1.nd with names := marksR k P.length }⟩, E[i].2)) w' := by
  subst hl
  exact h.names i hi k P v eP ev hn hg
theorem Cw.keysN {B g cap n : Nat} {E : List CdE} {w w' : World} (h : Cw B (.slice (some ⟨g, 0, none⟩) n cap) E w) (hl : E.length = n) (i : Nat) (hi : i < E.length) (k : Nat) (P : List ByteArray) (v : Value) (eP : E[i].1.nd.keys = P) (ev : E[i].2.2.1 = v)
    (hn : LsX B w' (v, marksR k P.length)) (hg : P = [] ∧ w' = w ∨ P ≠ [] ∧ w.grownBy w' v.ownBlock) :
    Cw B (.slice (some ⟨g, 0, none⟩) n cap) (E.set i (⟨E[i].1.op, E[i].1.to, { E[i].1.nd with keys := marksR k P.length }⟩, E[i].2)) w' := by
  subst hl
  exact h.keys i hi k P v eP ev hn hg
end Go.Proofs.Ytonnmbkfjiddnaa
namespace Go.Proofs.Ytonnmbkfjiddnaa
open Go.RowKit Go.Lib Go.Maps
/-- An instruction with marks from k on; the number behind them. -/
def mkD (k : Nat) (c : Cd) : Cd := ⟨(k : Int), ((k + 1 : Nat) : Int), ⟨((k + 2 : Nat) : Int), ((k + 3 : Nat) : Int), ((k + 4 : Nat) : Int), markR (k + 5), marksR (k + 6) c.nd.names.length, marksR (k + 6 + c.nd.names.length) c.nd.keys.length, []⟩⟩
def nxD (k : Nat) (c : Cd) : Nat := k + 6 + c.nd.names.length + c.nd.keys.length
def mkE : Nat → List CdE → List CdE
  | _, [] => []
  | k, e :: r => (mkD k e.1, e.2) :: mkE (nxD k e.1) r
def mkC : Nat → List Cd → List Cd
  | _, [] => []
  | k, c :: r => mkD k c :: mkC (nxD k c) r
def endC : Nat → List Cd → Nat
  | k, [] => k
  | k, c :: r => endC (nxD k c) r
set_option maxRecDepth 20000 in
theorem mkE_fst : ∀ (E : List CdE) (k : Nat), (mkE k E).map (·.1) = mkC k (E.map (·.1))
  | [], _ => rfl
  | e :: r, k => by rw [mkE, List.map_cons, mkE_fst r, List.map_cons, mkC]
set_option maxRecDepth 20000 in
theorem mkC_len : ∀ (C : List Cd) (k : Nat), (mkC k C).length = C.length
  | [], _ => rfl
  | f :: r, k => by rw [mkC, List.length_cons, mkC_len r, List.length_cons]
set_option maxRecDepth 20000 in
theorem endC_ge : ∀ (C : List Cd) (k : Nat), k ≤ endC k C
  | [], k => Nat.le_refl _
  | f :: r, k => by rw [endC]; have := endC_ge r (nxD k f); unfold nxD at this ⊢; omega
set_option maxRecDepth 20000 in
theorem endC_le (m : Nat) : ∀ (C : List Cd) (k : Nat), (∀ c ∈ C, c.nd.names.length ≤ m ∧ c.nd.keys.length ≤ m) → endC k C ≤ k + C.length * (6 + 2 * m)
  | [], k, _ => by simp [endC]
  | f :: r, k, h => by
    rw [endC]
    have h1 := endC_le m r (nxD k f) (fun c hc => h c (List.mem_cons_of_mem _ hc))
    obtain ⟨h2, h3⟩ := h f List.mem_cons_self
    unfold nxD at h1 ⊢
    rw [List.length_cons, Nat.add_mul, Nat.one_mul]
    omega
set_option maxRecDepth 20000 in
/-- Five numbers of an instruction are written. -/
theorem Cw.put5 {B g cap m : Nat} {E : List CdE} {w : World} (h : Cw B (.slice (some ⟨g, 0, none⟩) m cap) E w) (hn : E.length = m) (i : Nat) (hi : i < E.length) (k0 k1 k2 k3 k4 : Int) (n : Nd) (vs : Value × Value × Value) (op to : Int) (he : E[i] = (⟨op, to, n⟩, vs)) :
    Cw B (.slice (some ⟨g, 0, none⟩) m cap) (E.set i (⟨k0, k1, ⟨k2, k3, k4, n.text, n.names, n.keys, n.kids⟩⟩, vs)) (((((w.setCell ⟨g, i * 9, none⟩ (.int .i64 k0)).setCell ⟨g, i * 9 + 1, none⟩ (.int .i64 k1)).setCell ⟨g, i * 9 + 2, none⟩ (.int .i64 k2)).setCell ⟨g, i * 9 + 3, none⟩ (.int .i64 k3)).setCell ⟨g, i * 9 + 4, none⟩ (.int .i64 k4)) := by
  have hkd := h.kids E[i] (List.getElem_mem hi)
  rw [he] at hkd
  have s1 := h.put1n hn i hi 0 (⟨k0, to, n⟩, vs) (.int .i64 k0) (by omega) (by rw [he]; rfl) (by rw [he]) (by rw [he]) (by rw [he]) (by rw [he]) hkd
  have s2 := s1.put1n (by rw [List.length_set]; exact hn) i (by rw [List.length_set]; exact hi) 1 (⟨k0, k1, n⟩, vs) (.int .i64 k1) (by omega) (by rw [List.getElem_set_self]; rfl) (by rw [List.getElem_set_self]) (by rw [List.getElem_set_self]) (by rw [List.getElem_set_self]) (by rw [List.getElem_set_self]) hkd
  rw [List.set_set] at s2
  have s3 := s2.put1n (by rw [List.length_set]; exact hn) i (by rw [List.length_set]; exact hi) 2 (⟨k0, k1, { n with kind := k2 }⟩, vs) (.int .i64 k2) (by omega) (by rw [List.getElem_set_self]; rfl) (by rw [List.getElem_set_self]) (by rw [List.getElem_set_self]) (by rw [List.getElem_set_self]) (by rw [List.getElem_set_self]) hkd
  rw [List.set_set] at s3
  have s4 := s3.put1n (by rw [List.length_set]; exact hn) i (by rw [List.length_set]; exact hi) 3 (⟨k0, k1, { n with kind := k2, num := k3 }⟩, vs) (.int .i64 k3) (by omega) (by rw [List.getElem_set_self]; rfl) (by rw [List.getElem_set_self]) (by rw [List.getElem_set_self]) (by rw [List.getElem_set_self]) (by rw [List.getElem_set_self]) hkd
  rw [List.set_set] at s4
  have s5 := s4.put1n (by rw [List.length_set]; exact hn) i (by rw [List.length_set]; exact hi) 4 (⟨k0, k1, { n with kind := k2, num := k3, mat := k4 }⟩, vs) (.int .i64 k4) (by omega) (by rw [List.getElem_set_self]; rfl) (by rw [List.getElem_set_self]) (by rw [List.getElem_set_self]) (by rw [List.getElem_set_self]) (by rw [List.getElem_set_self]) hkd
  rw [List.set_set] at s5
  exact s5
set_option maxRecDepth 20000 in
/-- The nine cells of an instruction. -/
theorem Cw.nine {B g cap m : Nat} {E : List CdE} {w : World} (h : Cw B (.slice (some ⟨g, 0, none⟩) m cap) E w) (hm : E.length = m) (i : Nat) (hi : i < E.length) (e : CdE) (he : E[i] = e) :
    (w.cell? ⟨g, i * 9, none⟩ = some (.int .i64 e.1.op) ∧ w.cell? ⟨g, i * 9 + 1, none⟩ = some (.int .i64 e.1.to) ∧ w.cell? ⟨g, i * 9 + 2, none⟩ = some (.int .i64 e.1.nd.kind) ∧ w.cell? ⟨g, i * 9 + 3, none⟩ = some (.int .i64 e.1.nd.num) ∧ w.cell? ⟨g, i * 9 + 4, none⟩ = some (.int .i64 e.1.nd.mat) ∧ w.cell? ⟨g, i * 9 + 5, none⟩ = some (.string e.1.nd.text) ∧ w.cell? ⟨g, i * 9 + 6, none⟩ = some e.2.1 ∧ w.cell? ⟨g, i * 9 + 7, none⟩ = some e.2.2.1 ∧ w.cell? ⟨g, i * 9 + 8, none⟩ = some e.2.2.2) ∧ ∀ j, w.frozen? ⟨g, j, none⟩ = false := by
  subst he hm
  have key : ∀ j, j < 9 → w.cell? ⟨g, i * 9 + j, none⟩ = (cell9 E[i])[j]? := fun j hj => by
    rw [World.ownsRow.cellAt h.row (i * 9 + j) (by omega), cdCells_at E i hi j hj]
  exact ⟨⟨key 0 (by omega), key 1 (by omega), key 2 (by omega), key 3 (by omega), key 4 (by omega), key 5 (by omega), key 6 (by omega), key 7 (by omega), key 8 (by omega)⟩, fun j => World.ownsRow.frozenAt h.row j⟩
set_option maxRecDepth 20000 in
theorem Below.turn {B : Nat} {W w w' : World} {v : Value} {P : List ByteArray} (h : Below B W w) (hl : LsX B w (v, P)) (hB : B ≤ w.heap.size) (hg : P = [] ∧ w' = w ∨ P ≠ [] ∧ w.grownBy w' v.ownBlock) : Below B W w' := by
  rcases hg with ⟨-, rfl⟩ | ⟨hn, hg⟩
  · exact h
  · exact h.grown hg hB (fun k hk => (World.ownsRow.lt (hl.2 hn) k hk).1)
set_option maxHeartbeats 4000000 in
set_option maxRecDepth 20000 in
theorem lawMarkCodes (o : Option Addr) (E : List CdE) (n cap B : Nat) (w : World) (hn : E.length = n) (hM : endC 1 (E.map (·.1)) ≤ 1000000000000) (hf : ∀ e ∈ E, e.1.nd.names.length ≤ 1048576 ∧ e.1.nd.keys.length ≤ 1048576) (hnl : n ≤ 1048576) (hB0 : B ≤ w.heap.size) (h : Cw B (.slice o n cap) E w) :
    Calls Try.prog 11 #[.slice o n cap, .int .i64 1] w fun e w' => e = .returned (.int .i64 ((endC 1 (E.map (·.1)) : Nat) : Int)) ∧ Hid (Cw B (.slice o n cap) (mkE 1 E) w') ∧ Hid (Below B w w') := by
  obtain ⟨M, hMM⟩ : ∃ M, endC 1 (E.map (·.1)) = M := ⟨_, rfl⟩
  rw [hMM] at hM ⊢
  have HM : Hid (endC 1 ((E.drop 0).map (·.1)) = M) := hMM
  have H := mkHid h
  have Hn := mkHid hn
  have Hf := mkHid hf
  clear h hMM hn hf
  go_enter Try.func11, Try.ntmps11
  go_wp2
  go_loopw [1, 5] (fun m iv wr => ∃ (i q : Nat) (D : List CdE), i ≤ n ∧ iv = .int .i64 i ∧ m = .int .i64 (q : Int) ∧ 0 < q ∧ q ≤ 1000000000000 ∧ D.length = i ∧ Hid (D ++ mkE q (E.drop i) = mkE 1 E) ∧ Hid (endC q ((E.drop i).map (·.1)) = M) ∧ Hid (Cw B (.slice o n cap) (D ++ E.drop i) wr) ∧ Hid (Below B w wr)) (fun _ iv _ => n - (Lib.intOf iv).toNat)
  case atStart => exact ⟨0, 1, [], Nat.zero_le _, rfl, rfl, by omega, by omega, rfl, rfl, HM, H, Below.refl _ _⟩
  case round =>
    clear H HM
    obtain ⟨i, q, D, hi, rfl, rfl, hq0, hqb, hDl, hD, hE, hCr, hB⟩ := hrel
    by_cases hlt : i < n
    · have hiE : i < E.length := by rw [Hn.out]; exact hlt
      have hXn : (D ++ E.drop i).length = n := by rw [List.length_append, List.length_drop, hDl, Hn.out]; omega
      have hXi : (D ++ E.drop i)[i]'(by omega) = E[i] := by
        rw [List.getElem_append_right (by omega)]
        simp [hDl]
      have hset : ∀ e : CdE, (D ++ E.drop i).set i e = (D ++ [e]) ++ E.drop (i + 1) := fun e => by
        rw [List.set_append, if_neg (by omega), hDl, Nat.sub_self, List.drop_eq_getElem_cons hiE, List.set_cons_zero]
        simp
      have hD2 := hD.out
      have hE2 := hE.out
      rw [List.drop_eq_getElem_cons hiE, mkE] at hD2
      rw [List.drop_eq_getElem_cons hiE, List.map_cons, endC] at hE2
      obtain ⟨hfn, hfk⟩ := Hf.out E[i] (List.getElem_mem hiE)
      have hqe : nxD q E[i].1 ≤ 1000000000000 := by
        have := endC_ge ((E.drop (i + 1)).map (·.1)) (nxD q E[i].1)
        rw [hE2] at this
        omega
      obtain ⟨X, hX⟩ : ∃ X, D ++ E.drop i = X := ⟨_, rfl⟩
      have hCr1 := hCr.out
      rw [hX] at hCr1 hXn hset
      simp only [hX] at hXi
      have hiX : i < X.length := by omega
      obtain ⟨g, hg⟩ : ∃ g, o = some ⟨g, 0, none⟩ := by
        rcases hCr1.row.2 with ⟨h1, h0⟩ | ⟨g, cap', cur, h1, -⟩
        · omega
        · simp only [Value.slice.injEq] at h1
          exact ⟨g, h1.1⟩
      subst hg
      have hgB : B ≤ g := (World.ownsRow.lt hCr1.row g rfl).1
      obtain ⟨⟨d0, d1, d2, d3, d4, d5, d6, d7, d8⟩, zf⟩ := hCr1.nine hXn i hiX _ hXi
      obtain ⟨hkd, od, cd, hvd⟩ := hCr1.kids X[i] (List.getElem_mem hiX)
      rw [hXi] at hkd hvd
      obtain ⟨s1, s2⟩ := slots_at X i hiX
      rw [hXi] at s1 s2
      have ln := hCr1.own _ (List.mem_of_getElem? s1)
      have lk := hCr1.own _ (List.mem_of_getElem? s2)
      obtain ⟨⟨on, cn, en⟩, -⟩ := id ln
      obtain ⟨⟨ok, ck, ek⟩, -⟩ := id lk
      dsimp only at en ek
      have p5 := hCr1.put5 hXn i hiX (q : Int) ((q + 1 : Nat) : Int) ((q + 2 : Nat) : Int) ((q + 3 : Nat) : Int) ((q + 4 : Nat) : Int) E[i].1.nd E[i].2 E[i].1.op E[i].1.to hXi
      obtain ⟨⟨⟨op, to, ⟨kind, num, mat, text, names, keys, kids⟩⟩, vn, vk, vd⟩, hEi⟩ : ∃ e, E[i] = e := ⟨_, rfl⟩
      rw [hEi] at d0 d1 d2 d3 d4 d5 d6 d7 d8 hkd hvd en ek p5 hD2 hE2 hqe hfn hfk ln lk
      dsimp only at d0 d1 d2 d3 d4 d5 d6 d7 d8 hkd hvd en ek p5 hfn hfk ln lk
      subst hkd hvd en ek
      unfold nxD at hqe hE2 hD2
      dsimp only at hqe hE2 hD2
      have z0 := zf (i * 9)
      have z1 := zf (i * 9 + 1)
      have z2 := zf (i * 9 + 2)
      have z3 := zf (i * 9 + 3)
      have z4 := zf (i * 9 + 4)
      obtain ⟨V1, hV1⟩ : ∃ V1, ((((wr.setCell ⟨g, i * 9, none⟩ (.int .i64 (q : Int))).setCell ⟨g, i * 9 + 1, none⟩ (.int .i64 ((q + 1 : Nat) : Int))).setCell ⟨g, i * 9 + 2, none⟩ (.int .i64 ((q + 2 : Nat) : Int))).setCell ⟨g, i * 9 + 3, none⟩ (.int .i64 ((q + 3 : Nat) : Int))).setCell ⟨g, i * 9 + 4, none⟩ (.int .i64 ((q + 4 : Nat) : Int)) = V1 := ⟨_, rfl⟩
      rw [hV1] at p5
      have hBV1 : Below B w V1 := by
        rw [← hV1]
        exact ((((hB.out.setCell (p := ⟨g, i * 9, none⟩) hgB _).setCell (p := ⟨g, i * 9 + 1, none⟩) hgB _).setCell (p := ⟨g, i * 9 + 2, none⟩) hgB _).setCell (p := ⟨g, i * 9 + 3, none⟩) hgB _).setCell (p := ⟨g, i * 9 + 4, none⟩) hgB _
      have cT := mkHid (markText (q + 5) V1 (by omega) (by omega))
      have HV1 := mkHid hV1
      have P5 := mkHid p5
      have HBV1 := mkHid hBV1
      have HD2 := mkHid hD2
      have HE2 := mkHid hE2
      have HXN := mkHid hXn
      have HSET := mkHid hset
      have HX := mkHid hX
      have hadd := add_off g (i * 9)
      clear hD hE hCr hB hCr1 hXi hset hD2 hE2 hX s1 s2 ln lk p5 hV1 hBV1 hEi zf d5 d6 d7 d8
      have r1 : (q : Int) + 1 = ((q + 1 : Nat) : Int) := rfl
      have r2 : ((q + 1 : Nat) : Int) + 1 = ((q + 2 : Nat) : Int) := rfl
      have r3 : ((q + 2 : Nat) : Int) + 1 = ((q + 3 : Nat) : Int) := rfl
      have r4 : ((q + 3 : Nat) : Int) + 1 = ((q + 4 : Nat) : Int) := rfl
      have r5 : ((q + 4 : Nat) : Int) + 1 = ((q + 5 : Nat) : Int) := rfl
      have r6 : ((q + 5 : Nat) : Int) + 1 = ((q + 6 : Nat) : Int) := rfl
      have R := mkHid (And.intro r1 (And.intro r2 (And.intro r3 (And.intro r4 (And.intro r5 r6)))))
      clear r1 r2 r3 r4 r5 r6
      go_wp2_with (go_at_call 23; fail)
      rw [R.out.1, R.out.2.1, R.out.2.2.1, R.out.2.2.2.1, R.out.2.2.2.2.1, show i * 9 + 2 + 1 = i * 9 + 3 from rfl, show i * 9 + 2 + 2 = i * 9 + 4 from rfl, HV1.out]
      refine cT.out.mono ?_
      rintro e w1 ⟨rfl, hb1⟩
      have c1 := P5.out.below hb1
      have hXs : ∀ e : CdE, (X.set i e).length = n := fun e => by rw [List.length_set]; exact HXN.out
      have hiS : ∀ e : CdE, i < (X.set i e).length := fun e => by rw [List.length_set]; exact hiX
      obtain ⟨⟨-, -, -, -, -, d5, d6, d7, d8⟩, zf⟩ := c1.nine (hXs _) i (hiS _) _ (List.getElem_set_self _)
      have z5 := zf (i * 9 + 5)
      dsimp only at d5
      obtain ⟨mt, hmt⟩ : ∃ mt, markR (q + 5) = mt := ⟨_, rfl⟩
      have c2 := c1.put1n (hXs _) i (hiS _) 5 (⟨(q : Int), ((q + 1 : Nat) : Int), ⟨((q + 2 : Nat) : Int), ((q + 3 : Nat) : Int), ((q + 4 : Nat) : Int), mt, names, keys, []⟩⟩, .slice on names.length cn, .slice ok keys.length ck, .slice od 0 cd) (.string mt) (by omega) (by rw [List.getElem_set_self]; rfl) (by rw [List.getElem_set_self]) (by rw [List.getElem_set_self]) (by rw [List.getElem_set_self]) (by rw [List.getElem_set_self]) ⟨rfl, _, _, rfl⟩
      rw [List.set_set] at c2
      have hBw1 := HBV1.out.trans (hb1.mono (by have := HBV1.out.size; omega))
      obtain ⟨V2, hV2⟩ : ∃ V2, w1.setCell ⟨g, i * 9 + 5, none⟩ (.string mt) = V2 := ⟨_, rfl⟩
      rw [hV2] at c2
      have hBV2 : Below B w V2 := by rw [← hV2]; exact hBw1.setCell (p := ⟨g, i * 9 + 5, none⟩) hgB _
      obtain ⟨⟨-, -, -, -, -, -, f6, f7, f8⟩, -⟩ := c2.nine (hXs _) i (hiS _) _ (List.getElem_set_self _)
      dsimp only at f6
      obtain ⟨s1, s2⟩ := slots_at _ i (hiS _)
      rw [List.getElem_set_self] at s1 s2
      have ln := c2.own _ (List.mem_of_getElem? s1)
      have cN := mkHid (lawMarkLs _ names B (q + 6) V2 hfn (by omega) (by omega) ln)
      have f6' : (w1.setCell ⟨g, i * 9 + 5, none⟩ (.string mt)).cell? ⟨g, i * 9 + 6, none⟩ = some (.slice on names.length cn) := by rw [hV2]; exact f6
      have C2 := mkHid c2
      have HBV2 := mkHid hBV2
      have Ln := mkHid ln
      have HV2 := mkHid hV2
      have Hmt := mkHid hmt
      unfold markR at hmt
      rw [hmt]
      have a1 : i * 9 + 2 + 3 = i * 9 + 5 := rfl
      have a2 : i * 9 + 2 + 4 = i * 9 + 6 := rfl
      have a3 : i * 9 + 2 + 5 = i * 9 + 7 := rfl
      have a4 : i * 9 + 2 + 6 = i * 9 + 8 := rfl
      clear hmt hb1 c1 c2 zf hBw1 hBV2 s1 s2 ln cT P5 HV1 HBV1 d0 d1 d2 d3 d4 d6 d7 d8 z0 z1 z2 z3 z4 f6 f7 f8 hV2
      go_wp2_with (go_at_call 24; fail)
      rw [show (q : Int) + 5 + 1 = ((q + 6 : Nat) : Int) from rfl, show i * 9 + 2 + 3 = i * 9 + 5 from rfl, HV2.out]
      refine cN.out.mono ?_
      rintro e w2 ⟨rfl, ln2, hg2⟩
      have c3 := C2.out.namesN (hXs _) i (hiS _) (q + 6) names (.slice on names.length cn) (by rw [List.getElem_set_self]) (by rw [List.getElem_set_self]) ln2.out hg2.out
      simp only [List.getElem_set_self, List.set_set] at c3
      have hB2 : Below B w w2 := Below.turn HBV2.out Ln.out (by have := HBV2.out.size; omega) hg2.out
      obtain ⟨⟨-, -, -, -, -, -, -, t7, -⟩, -⟩ := c3.nine (hXs _) i (hiS _) _ (List.getElem_set_self _)
      dsimp only at t7
      obtain ⟨s1, s2⟩ := slots_at _ i (hiS (⟨(q : Int), ((q + 1 : Nat) : Int), ⟨((q + 2 : Nat) : Int), ((q + 3 : Nat) : Int), ((q + 4 : Nat) : Int), mt, marksR (q + 6) names.length, keys, []⟩⟩, .slice on names.length cn, .slice ok keys.length ck, .slice od 0 cd))
      rw [List.getElem_set_self] at s1 s2
      have lk := c3.own _ (List.mem_of_getElem? s2)
      obtain ⟨m1, hm1⟩ : ∃ m, q + 6 + names.length = m := ⟨_, rfl⟩
      have cK := mkHid (lawMarkLs _ keys B m1 w2 hfk (by omega) (by omega) lk)
      have C3 := mkHid c3
      have HB2 := mkHid hB2
      have Lk := mkHid lk
      have Hm1 := mkHid hm1
      rw [hm1]
      clear c3 hB2 lk s1 s2 cN C2 HBV2 Ln HV2 f6' ln2 hg2 d5 z5 hm1 a1 a2 a3 a4
      go_wp2_with (go_at_call 24; fail)
      refine cK.out.mono ?_
      rintro e w3 ⟨rfl, lk3, hg3⟩
      have c4 := C3.out.keysN (hXs _) i (hiS _) m1 keys (.slice ok keys.length ck) (by rw [List.getElem_set_self]) (by rw [List.getElem_set_self]) lk3.out hg3.out
      simp only [List.getElem_set_self, List.set_set] at c4
      have hB3 : Below B w w3 := Below.turn HB2.out Lk.out (by have := HB2.out.size; omega) hg3.out
      obtain ⟨⟨-, -, -, -, -, -, -, -, t8⟩, -⟩ := c4.nine (hXs _) i (hiS _) _ (List.getElem_set_self _)
      dsimp only at t8
      obtain ⟨m2, hm2⟩ : ∃ m, m1 + keys.length = m := ⟨_, rfl⟩
      have cI := mkHid (lawMarkI0 od cd m2 w3)
      rw [HSET.out] at c4
      have C4 := mkHid c4
      have HB3 := mkHid hB3
      have Hm2 := mkHid hm2
      rw [hm2]
      have hm2b : m2 ≤ 1000000000000 := by have := Hm1.out; omega
      have hm20 : 0 < m2 := by have := Hm1.out; omega
      clear c4 hB3 cK C3 HB2 Lk lk3 hg3 t7 hm2
      go_wp2_with (go_at_call 25; fail)
      refine cI.out.mono ?_
      rintro e w4 ⟨rfl, rfl⟩
      clear cI t8
      have HDn : Hid ((D ++ [(mkD q ⟨op, to, ⟨kind, num, mat, text, names, keys, []⟩⟩, (.slice on names.length cn, .slice ok keys.length ck, .slice od 0 cd))]) ++ mkE m2 (E.drop (i + 1)) = mkE 1 E) := by
        show _ = _
        rw [← HD2.out, ← Hm2.out, ← Hm1.out, List.append_assoc]
        rfl
      have HEn : Hid (endC m2 ((E.drop (i + 1)).map (·.1)) = M) := by
        show _ = _
        rw [← HE2.out, ← Hm2.out, ← Hm1.out]
      have HCn : Hid (Cw B (.slice (some ⟨g, 0, none⟩) n cap) ((D ++ [(mkD q ⟨op, to, ⟨kind, num, mat, text, names, keys, []⟩⟩, (.slice on names.length cn, .slice ok keys.length ck, .slice od 0 cd))]) ++ E.drop (i + 1)) w4) := by
        have := C4.out
        rw [← Hm1.out, ← Hmt.out] at this
        exact this
      clear C4 HD2 HE2 Hm1 Hm2 Hmt HSET HX
      go_wp2
      go_roundw
      case rel => exact ⟨i + 1, m2, _, by omega, by go_num, by go_num, hm20, hm2b, by simp; omega, HDn, HEn, HCn, HB3⟩
      case measure => simp [Lib.intOf]; omega
    · have hd : E.drop i = [] := List.drop_eq_nil_of_le (by rw [Hn.out]; omega)
      have hD1 := hD.out
      have hE1 := hE.out
      have hR1 := hCr.out
      rw [hd] at hD1 hE1 hR1
      simp only [mkE, List.append_nil, List.map_nil, endC] at hD1 hE1 hR1
      rw [hD1] at hR1
      have HE1 := mkHid hE1
      have HR1 := mkHid hR1
      clear hD hE hCr hd hD1 hE1 hR1
      go_wp2
      go_ret
      exact ⟨by have := HE1.out; subst this; rfl, HR1, hB⟩
end Go.Proofs.Ytonnmbkfjiddnaa
namespace Go.Proofs.Ytonnmbkfjiddnaa
open Go.RowKit Go.Lib Go.Maps
set_option maxRecDepth 20000 in
theorem mkE_len : ∀ (E : List CdE) (k : Nat), (mkE k E).length = E.length
  | [], _ => rfl
  | e :: r, k => by rw [mkE, List.length_cons, mkE_len r, List.length_cons]
set_option maxHeartbeats 8000000 in
set_option maxRecDepth 20000 in
theorem lawHeldCodes (o : Option Addr) (E : List CdE) (n cap B : Nat) (w : World) (hn : E.length = n) (hM : endC 1 (E.map (·.1)) ≤ 1000000000000) (hf : ∀ e ∈ E, e.1.nd.names.length ≤ 1048576 ∧ e.1.nd.keys.length ≤ 1048576) (hnl : n ≤ 1048576) (h : Cw B (.slice o n cap) (mkE 1 E) w) :
    Calls Try.prog 12 #[.slice o n cap, .int .i64 1] w fun e w' => e = .returned (.int .i64 ((endC 1 (E.map (·.1)) : Nat) : Int)) ∧ Below w.heap.size w w' := by
  obtain ⟨M, hMM⟩ : ∃ M, endC 1 (E.map (·.1)) = M := ⟨_, rfl⟩
  rw [hMM] at hM ⊢
  have HM : Hid (endC 1 ((E.drop 0).map (·.1)) = M) := hMM
  have H := mkHid h
  have Hn := mkHid hn
  have Hf := mkHid hf
  clear h hMM hn hf
  go_enter Try.func12, Try.ntmps12
  go_wp2
  go_loopw [1, 5] (fun m iv wr => ∃ (i q : Nat), i ≤ n ∧ iv = .int .i64 i ∧ m = .int .i64 (q : Int) ∧ 0 < q ∧ q ≤ 1000000000000 ∧ Hid ((mkE 1 E).drop i = mkE q (E.drop i)) ∧ Hid (endC q ((E.drop i).map (·.1)) = M) ∧ Hid (Below w.heap.size w wr)) (fun _ iv _ => n - (Lib.intOf iv).toNat)
  case atStart => exact ⟨0, 1, Nat.zero_le _, rfl, rfl, by omega, by omega, rfl, HM, Below.refl _ _⟩
  case round =>
    clear HM
    obtain ⟨i, q, hi, rfl, rfl, hq0, hqb, hD, hE, hB⟩ := hrel
    by_cases hlt : i < n
    · have hiE : i < E.length := by rw [Hn.out]; exact hlt
      have hiM : i < (mkE 1 E).length := by rw [mkE_len]; exact hiE
      have hMl : (mkE 1 E).length = n := by rw [mkE_len]; exact Hn.out
      have hD2 := hD.out
      have hE2 := hE.out
      rw [List.drop_eq_getElem_cons hiE, mkE, List.drop_eq_getElem_cons hiM] at hD2
      rw [List.drop_eq_getElem_cons hiE, List.map_cons, endC] at hE2
      obtain ⟨hD3, hD4⟩ := List.cons_eq_cons.1 hD2
      obtain ⟨hfn, hfk⟩ := Hf.out E[i] (List.getElem_mem hiE)
      have hqe : nxD q E[i].1 ≤ 1000000000000 := by
        have := endC_ge ((E.drop (i + 1)).map (·.1)) (nxD q E[i].1)
        rw [hE2] at this
        omega
      have hCr := H.out.below hB.out
      obtain ⟨g, hg⟩ : ∃ g, o = some ⟨g, 0, none⟩ := by
        rcases hCr.row.2 with ⟨h1, h0⟩ | ⟨g, cap', cur, h1, -⟩
        · omega
        · simp only [Value.slice.injEq] at h1
          exact ⟨g, h1.1⟩
      subst hg
      obtain ⟨hkd, od, cd, hvd⟩ := hCr.kids _ (List.getElem_mem hiM)
      obtain ⟨s1, s2⟩ := slots_at (mkE 1 E) i hiM
      have hnine := hCr.nine hMl i hiM _ hD3
      rw [hD3] at s1 s2 hkd hvd
      have ln := hCr.own _ (List.mem_of_getElem? s1)
      have lk := hCr.own _ (List.mem_of_getElem? s2)
      obtain ⟨on, cn, en, tn⟩ := ln.tx
      obtain ⟨ok, ck, ek, tk⟩ := lk.tx
      dsimp only [mkD] at en ek tn tk hvd
      obtain ⟨⟨d0, d1, d2, d3, d4, d5, d6, d7, d8⟩, -⟩ := hnine
      dsimp only [mkD] at d0 d1 d2 d3 d4 d5 d6 d7 d8
      rw [marksR_len] at en ek
      rw [en] at d6
      rw [ek] at d7
      rw [hvd] at d8
      unfold nxD at hqe hE2 hD4
      have hgl : g < wr.heap.size := (World.ownsRow.lt hCr.row g rfl).2
      generalize E[i].1.nd.names.length = ln1 at *
      generalize E[i].1.nd.keys.length = lk1 at *
      have cN := mkHid (fun (W : World) (hb : Below wr.heap.size wr W) => lawHeldLs (.slice on ln1 cn) ln1 (q + 6) W hfn (by omega) (by omega) on cn rfl ((tn.below hb).mono hb.size))
      have cK := mkHid (fun (W : World) (hb : Below wr.heap.size wr W) => lawHeldLs (.slice ok lk1 ck) lk1 (q + 6 + ln1) W hfk (by omega) (by omega) ok ck rfl ((tk.below hb).mono hb.size))
      have cI := mkHid (fun (W : World) => lawHeldI0 od cd (q + 6 + ln1 + lk1) W)
      have Hc := mkHid (fun (w2 : World) (hb2 : Below wr.heap.size wr w2) => (hb2.cell (p := ⟨g, i * 9 + 5, none⟩) hgl).trans d5)
      have Hc6 := mkHid (fun (w2 : World) (hb2 : Below wr.heap.size wr w2) => (hb2.cell (p := ⟨g, i * 9 + 6, none⟩) hgl).trans d6)
      have Hc7 := mkHid (fun (w2 : World) (hb2 : Below wr.heap.size wr w2) => (hb2.cell (p := ⟨g, i * 9 + 7, none⟩) hgl).trans d7)
      have Hc8 := mkHid (fun (w2 : World) (hb2 : Below wr.heap.size wr w2) => (hb2.cell (p := ⟨g, i * 9 + 8, none⟩) hgl).trans d8)
      have hmk := mkHid (fun W => markText (q + 5) W (by omega) (by omega))
      unfold markR at d5 Hc
      have zq : ∀ x : ByteArray, (x.toList != x.toList) = false := fun x => by simp
      have zq2 := zq ⟨(Pl.mark (q + 5)).toArray⟩
      generalize (⟨(Pl.mark (q + 5)).toArray⟩ : ByteArray) = x at *
      have hbr : Below wr.heap.size wr wr := Below.refl _ _
      rw [show ((q + 1 : Nat) : Int) = (q : Int) + 1 from rfl] at d1
      rw [show ((q + 2 : Nat) : Int) = (q : Int) + 1 + 1 from rfl] at d2
      rw [show ((q + 3 : Nat) : Int) = (q : Int) + 1 + 1 + 1 from rfl] at d3
      rw [show ((q + 4 : Nat) : Int) = (q : Int) + 1 + 1 + 1 + 1 from rfl] at d4
      have u0 : ((q : Int) != (q : Int)) = false := by simp
      have u1 : ((q : Int) + 1 != (q : Int) + 1) = false := by simp
      have u2 : ((q : Int) + 1 + 1 != (q : Int) + 1 + 1) = false := by simp
      have u3 : ((q : Int) + 1 + 1 + 1 != (q : Int) + 1 + 1 + 1) = false := by simp
      have u4 : ((q : Int) + 1 + 1 + 1 + 1 != (q : Int) + 1 + 1 + 1 + 1) = false := by simp
      have hadd := add_off g (i * 9)
      have HD4 := mkHid hD4
      have HE2 := mkHid hE2
      clear zq H hD hE hD2 hE2 hD3 hD4 hCr s1 s2 ln lk tn tk en ek hkd hvd hfn hfk
      go_wp2
      have cS : wr.drew.cell? ⟨g, i * 9 + 2 + 3, none⟩ = some (.string x) := d5
      refine wp_region_held (S := fun w => w.cell? ⟨g, i * 9 + 2 + 3, none⟩ = some (.string x)) (by kernel_rfl) ?_
      refine wpAnyH_take (i := 0) (v := .slice (some ⟨g, 0, none⟩) n cap) rfl (by kernel_rfl) (by kernel_rfl) (by kernel_rfl) (fun _ _ _ h => h) (Or.inl ⟨by rfl, ?_⟩) cS ?_
      · intro w sS
        go_simp
        all_goals first | done | (intro h; exfalso; omega) | omega
      go_simp
      refine wpAnyH_take (i := 1) (v := .int .i64 (i : Int)) rfl (by kernel_rfl) (by kernel_rfl) (by kernel_rfl) (fun _ _ _ h => h) (Or.inl ⟨by rfl, ?_⟩) cS ?_
      · intro w sS
        go_simp
        all_goals first | done | (intro h; exfalso; omega) | omega
      go_simp
      refine wpAnyH_take (i := 2) (v := .pointer (some ⟨g, i * 9, none⟩)) rfl (by kernel_rfl) (by kernel_rfl) (by kernel_rfl) (fun _ _ _ h => h) (Or.inl ⟨by rfl, ?_⟩) cS ?_
      · intro w sS
        go_simp
        all_goals first | done | (intro h; exfalso; omega) | omega
      go_simp
      refine wpAnyH_take (i := 3) (v := .pointer (some ⟨g, i * 9 + 2, none⟩)) rfl (by kernel_rfl) (by kernel_rfl) (by kernel_rfl) (fun _ _ _ h => h) (Or.inl ⟨by rfl, ?_⟩) cS ?_
      · intro w sS
        go_simp
        all_goals first | done | (intro h; exfalso; omega) | omega
      go_simp
      refine wpAnyH_take (i := 4) (v := .pointer (some ⟨g, i * 9 + 2 + 3, none⟩)) rfl (by kernel_rfl) (by kernel_rfl) (by kernel_rfl) (fun _ _ _ h => h) (Or.inl ⟨by rfl, ?_⟩) cS ?_
      · intro w sS
        go_simp
        all_goals first | done | (intro h; exfalso; omega) | omega
      go_simp
      refine wpAnyH_take (i := 5) (v := .string x) rfl (by kernel_rfl) (by kernel_rfl) (by kernel_rfl) (fun _ _ _ h => h) (Or.inl ⟨by rfl, ?_⟩) cS ?_
      · intro w sS
        go_simp
        all_goals first | done | (intro h; exfalso; omega) | omega
      go_simp
      refine wpAnyH_take (i := 6) (v := .int .i64 ((q : Int) + 1 + 1 + 1 + 1 + 1)) rfl (by kernel_rfl) (by kernel_rfl) (by kernel_rfl) (fun _ _ _ h => h) (Or.inl ⟨by rfl, ?_⟩) cS ?_
      · intro w sS
        go_simp
        all_goals first | done | (intro h; exfalso; omega) | omega
      go_simp
      refine wpAnyH_all (rs := [7]) (by kernel_rfl) (by simp) ?_
      intro p hp
      simp only [List.mem_cons, List.not_mem_nil, or_false] at hp
      subst hp
      refine wpOp_step rfl (fun K hK => ?_)
      go_simp
      refine (hmk.out _).mono ?_
      rintro e w1 ⟨rfl, hb1'⟩
      have hb1 : Below wr.heap.size wr w1 := (Below.refl wr.heap.size wr).drew.trans hb1'
      have cS1 : w1.cell? ⟨g, i * 9 + 2 + 3, none⟩ = some (.string x) := Hc.out w1 hb1
      refine hK _ _ ⟨cS1, ?_⟩
      clear hK K hb1'
      go_simp
      refine wpAnyH_take (i := 8) (v := .bool false) rfl (by kernel_rfl) (by kernel_rfl) (by kernel_rfl) (fun _ _ _ h => h) (Or.inl ⟨by rfl, ?_⟩) cS1 ?_
      · intro w sS
        go_simp
        all_goals first | done | (intro h; exfalso; omega) | omega
      go_simp
      refine wpAnyH_done (by kernel_rfl) ?_ _
      have d6 := Hc6.out w1 hb1
      have HB1 := mkHid hb1
      have kN := mkHid (cN.out w1 hb1)
      clear cS cS1 d0 d1 d2 d3 d4 d5 hb1 hbr u0 u1 u2 u3 u4 hmk Hc zq2 cN
      go_wp2_with (go_at_call 26; fail)
      refine kN.out.mono ?_
      rintro e w2 ⟨rfl, hb2⟩
      have hB2 := HB1.out.trans (hb2.mono HB1.out.size)
      have d7 := Hc7.out w2 hB2
      have kK := mkHid (cK.out w2 hB2)
      have HB2 := mkHid hB2
      obtain ⟨m1, hm1⟩ : ∃ m, q + 6 + ln1 = m := ⟨_, rfl⟩
      rw [hm1] at kK cI
      rw [hm1]
      have u5 : decide ((m1 : Int) < 0) = false := decide_eq_false (by omega)
      have Hm1 := mkHid hm1
      clear hb2 hB2 d6 kN HB1 cK Hc7 Hc6 hm1
      go_wp2_with (go_at_call 26; fail)
      refine kK.out.mono ?_
      rintro e w3 ⟨rfl, hb3⟩
      have hB3 := HB2.out.trans (hb3.mono HB2.out.size)
      have d8 := Hc8.out w3 hB3
      have HB3 := mkHid hB3
      obtain ⟨m2, hm2⟩ : ∃ m, m1 + lk1 = m := ⟨_, rfl⟩
      rw [hm2] at cI
      rw [hm2]
      have u6 : decide ((m2 : Int) < 0) = false := decide_eq_false (by omega)
      have Hm2 := mkHid hm2
      clear hb3 hB3 d7 kK HB2 Hc8 hm2
      go_wp2_with (go_at_call 27; fail)
      refine (cI.out _).mono ?_
      rintro e w4 ⟨rfl, rfl⟩
      have HD5 : Hid ((mkE 1 E).drop (i + 1) = mkE m2 (E.drop (i + 1))) := by
        show _ = _
        rw [HD4.out, ← Hm2.out, ← Hm1.out]
      have HE5 : Hid (endC m2 ((E.drop (i + 1)).map (·.1)) = M) := by
        show _ = _
        rw [← Hm2.out, ← Hm1.out]
        exact HE2.out
      have hB4 := mkHid (hB.out.trans (HB3.out.mono hB.out.size))
      have hm2b : m2 ≤ 1000000000000 := by have := Hm1.out; have := Hm2.out; omega
      have hm20 : 0 < m2 := by have := Hm1.out; have := Hm2.out; omega
      clear cI d8 HB3 HD4 HE2 Hm1 Hm2
      go_wp2
      go_roundw
      case rel => exact ⟨i + 1, m2, by omega, by go_num, by go_num, hm20, hm2b, HD5, HE5, hB4⟩
      case measure => simp [Lib.intOf]; omega
    · have hd : E.drop i = [] := List.drop_eq_nil_of_le (by rw [Hn.out]; omega)
      have hE1 := hE.out
      rw [hd] at hE1
      simp only [List.map_nil, endC] at hE1
      have HE1 := mkHid hE1
      clear hD hE hd hE1
      go_wp2
      go_ret
      exact ⟨by have := HE1.out; subst this; rfl, hB.out⟩
end Go.Proofs.Ytonnmbkfjiddnaa
