
/- The program's sets of numbers: maps. -/
import Derived.Test.YtbepjjnjdhkcbaaDoorStSmall
import Derived.Maps.Own
import Derived.Maps.OwnSet
import Derived.Maps.Views
namespace Go.Proofs.YtbepjjnjdhkcbaaDoor
open Go.RowKit Go.Lib Go.Maps
/-- A map that has just the numbers of which S is true. -/
structure SetI (w : World) (m n : Nat) (S : Int → Bool) : Prop where
  own : ∃ D : DataW Unit, w.ownsMap Tryd.prog 2 unitElem m n D ∧ ∀ z : Int, has D (.int .i64 z) = S z
set_option maxRecDepth 20000 in
theorem lawInt : Keyed Tryd.prog 2 := int_keyed Tryd.underlying2
set_option maxRecDepth 20000 in
theorem wf_int (z : Int) (h0 : -9223372036854775808 ≤ z) (h1 : z ≤ 9223372036854775807) : (Lit.int .i64 z).wf = true := by
  show (decide (IntKind.i64.min ≤ z) && decide (z ≤ IntKind.i64.max)) = true
  rw [show IntKind.i64.min = -9223372036854775808 from rfl, show IntKind.i64.max = 9223372036854775807 from rfl, decide_eq_true h0, decide_eq_true h1]
  rfl
set_option maxRecDepth 20000 in
theorem SetI.made (w : World) : SetI (w.alloc (.map #[] 0)) w.heap.size 0 (fun _ => false) :=
  ⟨_, World.ownsMap_made (H := Unit) w Tryd.prog 2 unitElem, fun _ => rfl⟩
set_option maxRecDepth 20000 in
theorem SetI.lt {w : World} {m n : Nat} {S : Int → Bool} (h : SetI w m n S) : m < w.heap.size := by
  obtain ⟨D, hD, _⟩ := h.own
  exact hD.lt
set_option maxRecDepth 20000 in
theorem SetI.kept {w w' : World} {m n : Nat} {S : Int → Bool} {row : Option Nat} (h : SetI w m n S) (hg : w.grownBy w' row) (hne : some m ≠ row) : SetI w' m n S := by
  obtain ⟨D, hD, hat⟩ := h.own
  exact ⟨D, hD.kept hg hne, hat⟩
set_option maxRecDepth 20000 in
theorem SetI.below {w w' : World} {m n : Nat} {S : Int → Bool} (h : SetI w m n S) (hb : Below w.heap.size w w') : SetI w' m n S :=
  h.kept (row := none) ⟨hb.os, hb.tape, hb.output, hb.size, fun k hk _ => hb.block k hk⟩ (by simp)
set_option maxRecDepth 20000 in
set_option maxHeartbeats 1000000 in
theorem implHas (m n : Nat) (S : Int → Bool) (z : Int) (w : World) (h : SetI w m n S) (h0 : -9223372036854775808 ≤ z) (h1 : z ≤ 9223372036854775807) :
    Calls Tryd.prog 25 #[.map (some m), .int .i64 z] w fun e w' => e = .returned (.bool (S z)) ∧ Below w.heap.size w w' := by
  obtain ⟨D, hD, hat⟩ := h.own
  have hk := keyOf_int_mk (P := Tryd.prog) (k := 2) Tryd.underlying2 (wf_int z h0 h1)
  have hz : (zeroValue 71).run Tryd.prog w = .ok (.agg #[]) w := by kernel_rfl
  have hS := hat z
  generalize S z = b at *
  go_enter Tryd.func25, Tryd.ntmps25
  go_wp2_with (first | (at_lookup; refine wpList_lookup_own_unit _ rfl _ _ 61 rfl 2 71 lawInt Tryd.underlying61 hz m n D rfl hD _ _ rfl hk ?_; rw [hS]) | go_in)
  go_ret
  exact ⟨rfl, (Below.refl _ _).alloc (Nat.le_refl _) _⟩
set_option maxRecDepth 20000 in
set_option maxHeartbeats 2000000 in
theorem implAdd (m n : Nat) (S : Int → Bool) (o : Option Addr) (F : List Int) (cap lo : Nat) (w : World) (h : SetI w m n S) (hF : InL lo w.heap.size w o F) (hr : ∀ z ∈ F, -9223372036854775808 ≤ z ∧ z ≤ 9223372036854775807) (hl : F.length ≤ 1000) (hn : n ≤ 100000) :
    Calls Tryd.prog 27 #[.map (some m), .slice o F.length cap] w fun e w' => e = .returned (.tuple #[]) ∧ Hid (SetI w' m (n + F.length) (fun z => S z || F.any (· == z))) ∧ Hid (w.grownBy w' (some m)) := by
  have HF := mkHid hF
  have Hr := mkHid hr
  have H0 : Hid (SetI w m (n + 0) (fun z => S z || (F.take 0).any (· == z))) := by
    obtain ⟨D, hD, hat⟩ := h.own
    exact ⟨D, hD, fun z => by rw [hat z]; simp⟩
  have H1 : Hid (∀ (p : Addr) (v : Value), w.cell? p = some v → p.block ≠ m) := by
    obtain ⟨D, ⟨es, clock, hb, _⟩, _⟩ := h.own
    intro p v hp e
    simp [World.cell?, e, hb] at hp
  clear h hF hr
  go_enter Tryd.func27, Tryd.ntmps27
  go_wp2
  go_loopw [8] (fun iv wr => ∃ i : Nat, i ≤ F.length ∧ iv = .int .i64 i ∧ Hid (SetI wr m (n + i) (fun z => S z || (F.take i).any (· == z))) ∧ Hid (w.grownBy wr (some m))) (fun iv _ => F.length - (Lib.intOf iv).toNat)
  case atStart => exact ⟨0, Nat.zero_le _, rfl, H0, ⟨rfl, rfl, rfl, Nat.le_refl _, fun _ _ _ => rfl⟩⟩
  case round =>
    clear H0
    obtain ⟨i, hi, rfl, hS, hg⟩ := hrel
    by_cases hlt : i < F.length
    · obtain ⟨a, rfl, ha1, ha2, c0⟩ := HF.out i hlt
      have hne := H1.out _ _ c0
      have c1 := (World.cell?_of_block (hg.out.block (a.add i).block (by rw [add_blockG]; exact ha2) (by intro h; exact hne (Option.some.inj h)))).trans c0
      obtain ⟨D, hD, hat⟩ := hS.out.own
      obtain ⟨z, hz⟩ : ∃ z, F[i] = z := ⟨_, rfl⟩
      have hrz := Hr.out F[i] (List.getElem_mem hlt)
      rw [hz] at c1 hrz
      have hk := keyOf_int_mk (P := Tryd.prog) (k := 2) Tryd.underlying2 (wf_int z hrz.1 hrz.2)
      have hnext : Hid (∀ (w' : World), w'.ownsMap Tryd.prog 2 unitElem m (n + i + 1) (D.put (.int .i64 z) (.agg [])) → SetI w' m (n + (i + 1)) (fun x => S x || (F.take (i + 1)).any (· == x))) := by
        intro w' hw'
        refine ⟨_, hw', fun x => ?_⟩
        rw [List.take_succ_eq_append_getElem hlt, List.any_append, hz]
        by_cases e : x = z
        · subst e
          rw [has_put_same (k := .int .i64 x) hD.isMap trivial]
          simp
        · rw [has_put_other (by intro h; injection h with _ h; exact e h), hat x]
          have e2 : (z == x) = false := by simp; exact fun h => e h.symm
          simp [e2]
      replace hD := mkHid hD
      clear c0 hat hS hz hrz hne H1
      go_wp2_with (first | (at_mapUpdate; refine wpList_mapUpdate_own _ rfl _ _ _ 61 rfl 2 71 lawInt Tryd.underlying61 _ m (n + i) D rfl hD.out (by unfold maxLen; omega) _ _ (.int .i64 z) rfl rfl hk (.agg []) [] unitElem_mk ?_; intro w1 hown1 hg1; refine Hid.out ?_) | go_in)
      have hS1 := mkHid (hnext.out w1 hown1)
      have hg2 : Hid (w.grownBy w1 (some m)) := grG_trans hg.out hg1
      clear hnext hown1 hg1 hg hD hk c1
      refine mkHid ?_
      go_wp2
      go_roundw
      case rel => exact ⟨i + 1, by omega, by go_num, hS1, hg2⟩
      case measure => simp [Lib.intOf]; omega
    · have hS1 : Hid (SetI wr m (n + F.length) (fun z => S z || F.any (· == z))) := by
        have := hS.out
        have e : i = F.length := by omega
        rw [e, List.take_length] at this
        exact this
      clear hS
      go_wp2
      exact bodyPost_end (v := .tuple #[]) (results_none Tryd.results27 _ _ _) rfl ⟨rfl, hS1, hg⟩
set_option maxRecDepth 20000 in
set_option maxHeartbeats 1000000 in
theorem implNewSet (o : Option Addr) (F : List Int) (cap lo : Nat) (w : World) (hF : InL lo w.heap.size w o F) (hr : ∀ z ∈ F, -9223372036854775808 ≤ z ∧ z ≤ 9223372036854775807) (hl : F.length ≤ 1000) :
    Calls Tryd.prog 61 #[.slice o F.length cap] w fun e w' => e = .returned (.map (some w.heap.size)) ∧ Hid (SetI w' w.heap.size F.length (fun z => F.any (· == z))) ∧ Below w.heap.size w w' := by
  obtain ⟨W, hW⟩ : ∃ W, W = w.alloc (.map #[] 0) := ⟨_, rfl⟩
  have hb : Below w.heap.size w W := by rw [hW]; exact (Below.refl _ _).alloc (Nat.le_refl _) _
  have hS : SetI W w.heap.size 0 (fun _ => false) := by rw [hW]; exact SetI.made w
  have cA := mkHid (implAdd w.heap.size 0 (fun _ => false) o F cap lo W hS ((hF.below hb (Nat.le_refl _)).mono (Nat.le_refl _) hb.size) hr hl (by omega))
  have hmm : (Instr.makeMap 61 (some (.int .i64 (F.length : Int)))).run Tryd.prog w = .ok (.map (some w.heap.size)) (w.alloc (.map #[] 0)) := by rfl
  have HW := mkHid hW
  have Hb := mkHid hb
  clear hW hb hS hF hr
  go_enter Tryd.func61, Tryd.ntmps61
  go_wp2_with fail
  rw [← HW.out]
  refine cA.out.mono ?_
  rintro e w1 ⟨rfl, hS, hg⟩
  have hS2 : Hid (SetI w1 w.heap.size F.length (fun z => F.any (· == z))) := by
    obtain ⟨D, hD, hat⟩ := hS.out.own
    rw [Nat.zero_add] at hD
    exact ⟨D, hD, fun z => by rw [hat z, Bool.false_or]⟩
  have hb2 := mkHid (Hb.out.grown hg.out Hb.out.size (fun k hk => by cases hk; exact Nat.le_refl _))
  clear hS hg cA HW Hb
  go_wp2
  go_ret
  exact ⟨rfl, hS2, hb2.out⟩
end Go.Proofs.YtbepjjnjdhkcbaaDoor
