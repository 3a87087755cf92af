
/- A number in digits, the specification's side. -/
import Derived.Test.YtgabjiamabbheaaGreatDoorPhraseQuote
import Derived.Lib.ItoaNum
import Derived.Deep.QuietTactic
import Derived.BigQuiet
import Derived.Deep.RegionWith
import Derived.Laws.OwnMore
import Derived.WalkSmall
namespace Go.Proofs.YtgabjiamabbheaaGreatDoor
open Go.RowKit Go.Lib
namespace Pl
def by8 (n : Int) : UInt8 := UInt8.ofNat n.toNat
set_option maxRecDepth 20000 in
theorem by8_eq (n : Int) (a : UInt8) (h0 : 0 ≤ n) (h1 : n < 256) : by8 n = a ↔ n = (a.toNat : Int) := by
  constructor
  · rintro rfl
    simp [by8, UInt8.toNat_ofNat']
    omega
  · intro h
    apply UInt8.toNat_inj.1
    simp [by8, UInt8.toNat_ofNat']
    omega
end Pl
set_option maxRecDepth 20000 in
theorem by8_val (n : Int) (h0 : 0 ≤ n) (h1 : n < 256) : ((Pl.by8 n).toNat : Int) = n := ((Pl.by8_eq n _ h0 h1).1 rfl).symm
set_option maxRecDepth 20000 in
theorem w64 (x : Int) (h0 : -9223372036854775808 ≤ x) (h1 : x ≤ 9223372036854775807) : IntKind.i64.wrap x = x := by
  unfold IntKind.wrap
  simp [IntKind.bits, IntKind.signed]
  omega
set_option maxRecDepth 20000 in
theorem w8 (x : Int) (h0 : 0 ≤ x) (h1 : x < 256) : IntKind.u8.wrap x = x := by
  unfold IntKind.wrap
  simp [IntKind.bits, IntKind.signed]
  omega
set_option maxRecDepth 20000 in
theorem text1 (c : UInt8) (w : World) : (convert 69 9 (.slice (some ⟨w.heap.size, 0, none⟩) 1 1)).run Tryz.prog (w.alloc (.cells #[.int .u8 (c.toNat : Int)] 5)) = .ok (.string ⟨#[c]⟩) (w.alloc (.cells #[.int .u8 (c.toNat : Int)] 5)) := by
  refine run_convert_bytes_back (P := Tryz.prog) _ 69 9 5 ⟨w.heap.size, 0, none⟩ 1 [c] Tryz.underlying69 Tryz.underlying5 Tryz.underlying9 ?_
  intro j hj
  match j, hj with
  | 0, hj => rw [add_off]; simp
set_option maxRecDepth 20000 in
theorem dec_len : ∀ n : Nat, (decDigits n).length ≤ n + 1 := by
  intro n
  induction n using Nat.strongRecOn with
  | ind n ih =>
    rw [decDigits]
    by_cases h : n < 10
    · rw [dif_pos h]; simp
    · rw [dif_neg h, List.length_append]
      have := ih (n / 10) (by omega)
      simp only [List.length_cons, List.length_nil]
      omega
set_option maxRecDepth 20000 in
theorem ba_join (a b : List UInt8) : (⟨a.toArray⟩ : ByteArray) ++ ⟨b.toArray⟩ = ⟨(a ++ b).toArray⟩ := by
  apply ByteArray.ext
  simp
set_option maxRecDepth 20000 in
theorem textD (d : Int) (h0 : 0 ≤ d) (h1 : d < 256) (w : World) : (convert 69 9 (.slice (some ⟨w.heap.size, 0, none⟩) 1 1)).run Tryz.prog (w.alloc (.cells #[.int .u8 d] 5)) = .ok (.string ⟨#[Pl.by8 d]⟩) (w.alloc (.cells #[.int .u8 d] 5)) := by
  have := text1 (Pl.by8 d) w
  rw [by8_val d h0 h1] at this
  exact this
set_option maxRecDepth 20000 in
theorem textAt (d : Int) (h0 : 0 ≤ d) (h1 : d < 256) (w w3 : World) (hb : Below (w.alloc (.cells #[.int .u8 d] 5)).heap.size (w.alloc (.cells #[.int .u8 d] 5)).drew w3) :
    (convert 69 9 (.slice (some ⟨w.heap.size, 0, none⟩) 1 1)).run Tryz.prog w3 = .ok (.string ⟨#[Pl.by8 d]⟩) w3 := by
  refine run_convert_bytes_back (P := Tryz.prog) _ 69 9 5 ⟨w.heap.size, 0, none⟩ 1 [Pl.by8 d] Tryz.underlying69 Tryz.underlying5 Tryz.underlying9 ?_
  intro j hj
  match j, hj with
  | 0, hj =>
    rw [add_off]
    refine (hb.cell (p := ⟨w.heap.size, 0, none⟩) (by simp)).trans ?_
    rw [List.getElem_singleton, by8_val d h0 h1]
    simp
set_option maxRecDepth 20000 in
theorem textDd (d : Int) (h0 : 0 ≤ d) (h1 : d < 256) (w : World) : (convert 69 9 (.slice (some ⟨w.heap.size, 0, none⟩) 1 1)).run Tryz.prog (w.alloc (.cells #[.int .u8 d] 5)).drew = .ok (.string ⟨#[Pl.by8 d]⟩) (w.alloc (.cells #[.int .u8 d] 5)).drew := textD d h0 h1 w.drew
set_option maxRecDepth 10000 in
set_option maxHeartbeats 1000000 in
theorem specDec1 (n : Nat) (hn : n < 10) (w : World) : Calls Tryz.prog 43 #[.int .i64 n] w fun e w' => e = .returned (.string ⟨(decDigits n).toArray⟩) ∧ Below w.heap.size w w' := by
  have hbA : ∀ b, Below w.heap.size w (w.alloc b) := fun b => (Below.refl _ _).alloc (Nat.le_refl _) _
  have ht := textD (48 + (n : Int)) (by omega) (by omega) w
  have hd : Hid ((⟨(decDigits n).toArray⟩ : ByteArray) = ⟨#[Pl.by8 (48 + (n : Int))]⟩) := show _ = _ from by
    rw [decDigits, dif_pos hn]
    rfl
  rw [hd.out]
  go_enter Tryz.func43, Tryz.ntmps43
  go_wp2
  go_ret
  exact ⟨rfl, hbA _⟩
set_option maxRecDepth 10000 in
set_option maxHeartbeats 1000000 in
theorem specDecStep (n : Nat) (hn : n ≤ 2200000000) (h10 : ¬ n < 10) (c1 : ∀ w : World, Calls Tryz.prog 43 #[.int .i64 ((n / 10 : Nat) : Int)] w fun e w' => e = .returned (.string ⟨(decDigits (n / 10)).toArray⟩) ∧ Below w.heap.size w w') (w : World) : Calls Tryz.prog 43 #[.int .i64 n] w fun e w' => e = .returned (.string ⟨(decDigits n).toArray⟩) ∧ Below w.heap.size w w' := by
  · skip
    have hd : Hid ((⟨(decDigits n).toArray⟩ : ByteArray) = ⟨(decDigits (n / 10)).toArray⟩ ++ ⟨#[Pl.by8 (48 + (n : Int) % 10)]⟩) := show _ = _ from by
      have e : Pl.by8 (48 + (n : Int) % 10) = UInt8.ofNat (48 + n % 10) := by
        unfold Pl.by8
        congr 1
      rw [e, decDigits, dif_neg h10]
      exact (ba_join _ [UInt8.ofNat (48 + n % 10)]).symm
    rw [hd.out]
    have hz : (⟨(decDigits (n / 10)).toArray⟩ : ByteArray).size ≤ 2200000000 := by
      have := dec_len (n / 10)
      show (decDigits (n / 10)).toArray.size ≤ 2200000000
      rw [List.size_toArray]
      omega
    have c2 : ∀ w : World, Calls Tryz.prog 43 #[.int .i64 ((n : Int) / 10)] w fun e w' => e = .returned (.string ⟨(decDigits (n / 10)).toArray⟩) ∧ Below w.heap.size w w' := c1
    generalize (⟨(decDigits (n / 10)).toArray⟩ : ByteArray) = db at *
    clear c1 hd
    go_enter Tryz.func43, Tryz.ntmps43
    go_wp2
    have t0 := textDd (48 + (n : Int) % 10) (by omega) (by omega) w
    have hbA : ∀ b, Below w.heap.size w (w.alloc b) := fun b => (Below.refl _ _).alloc (Nat.le_refl _) _
    have nz : ¬ 9223372036854775807 < db.size + 1 := by omega
    have k1 : IntKind.i64.wrap ((n : Int) / 10) = (n : Int) / 10 := w64 _ (by omega) (by omega)
    have k2 : (n : Int).tmod 10 = (n : Int) % 10 := Int.tmod_eq_emod_of_nonneg (by omega)
    have k3 : IntKind.i64.wrap (48 + (n : Int) % 10) = 48 + (n : Int) % 10 := w64 _ (by omega) (by omega)
    have k4 : IntKind.u8.wrap (48 + (n : Int) % 10) = 48 + (n : Int) % 10 := w8 _ (by omega) (by omega)
    refine wp_region_any (by kernel_rfl) ?_
    refine wpAny_take (i := 0) (v := .int .i64 (n : Int)) rfl (by kernel_rfl) (by kernel_rfl) (by kernel_rfl) (fun _ _ _ h => h) (Or.inl ⟨by rfl, ?_⟩) ?_
    · intro w
      go_simp
    go_simp
    refine wpAny_take (i := 1) (v := .int .i64 ((n : Int) / 10)) rfl (by kernel_rfl) (by kernel_rfl) (by kernel_rfl) (fun _ _ _ h => h) (Or.inl ⟨by rfl, ?_⟩) ?_
    · intro w
      go_simp
    go_simp
    refine wpAny_take (i := 3) (v := .int .i64 (n : Int)) rfl (by kernel_rfl) (by kernel_rfl) (by kernel_rfl) (fun _ _ _ h => h) (Or.inl ⟨by rfl, ?_⟩) ?_
    · intro w
      go_simp
    go_simp
    refine wpAny_take (i := 4) (v := .int .i64 ((n : Int) % 10)) rfl (by kernel_rfl) (by kernel_rfl) (by kernel_rfl) (fun _ _ _ h => h) (Or.inl ⟨by rfl, ?_⟩) ?_
    · intro w
      go_simp
    go_simp
    refine wpAny_take (i := 5) (v := .int .i64 (48 + (n : Int) % 10)) rfl (by kernel_rfl) (by kernel_rfl) (by kernel_rfl) (fun _ _ _ h => h) (Or.inl ⟨by rfl, ?_⟩) ?_
    · intro w
      go_simp
    go_simp
    refine wpAny_take (i := 6) (v := .int .u8 (48 + (n : Int) % 10)) rfl (by kernel_rfl) (by kernel_rfl) (by kernel_rfl) (fun _ _ _ h => h) (Or.inl ⟨by rfl, ?_⟩) ?_
    · intro w
      go_simp
    go_simp
    refine wpAny_ready (rs := [2, 7]) (by kernel_rfl) (by simp) ?_
    refine AllReady.cons rfl (fun K hK => ?_) (AllReady.cons rfl (fun K hK => ?_) AllReady.nil)
    · go_simp
      go_wp2_with fail
      refine (c2 _).mono ?_
      rintro e w3 ⟨rfl, hb3⟩
      show K _ w3
      refine hK _ _ ?_
      clear hK K
      go_simp
      have t1 := textD (48 + (n : Int) % 10) (by omega) (by omega) w3
      refine wpAny_ready (rs := [7]) (by kernel_rfl) (by simp) ?_
      refine AllReady.cons rfl (fun K hK => ?_) AllReady.nil
      go_simp
      refine hK _ _ ?_
      clear hK K
      go_simp
      refine wpAny_ready (rs := [8]) (by kernel_rfl) (by simp) ?_
      refine AllReady.cons rfl (fun K hK => ?_) AllReady.nil
      go_simp
      refine hK _ _ ?_
      clear hK K
      go_simp
      refine wpAny_take (i := 9) (v := .string (db ++ ⟨#[Pl.by8 (48 + (n : Int) % 10)]⟩)) rfl (by kernel_rfl) (by kernel_rfl) (by kernel_rfl) (fun _ _ _ h => h) (Or.inl ⟨by rfl, ?_⟩) ?_
      · intro w
        go_simp
      go_simp
      refine wpAny_take (i := 10) (v := .string (db ++ ⟨#[Pl.by8 (48 + (n : Int) % 10)]⟩)) rfl (by kernel_rfl) (by kernel_rfl) (by kernel_rfl) (fun _ _ _ h => h) (Or.inl ⟨by rfl, ?_⟩) ?_
      · intro w
        go_simp
      go_simp
      refine wpAny_done (by kernel_rfl) ?_ _
      have hbz := ((Below.refl _ _).drew.trans hb3).alloc hb3.size (.cells #[.int .u8 (48 + (n : Int) % 10)] 5)
      clear t0
      go_wp2
      go_ret
      exact ⟨rfl, hbz⟩
    · go_simp
      refine hK _ _ ?_
      clear hK K
      go_simp
      refine wpAny_ready (rs := [2, 8]) (by kernel_rfl) (by simp) ?_
      refine AllReady.cons rfl (fun K hK => ?_) (AllReady.cons rfl (fun K hK => ?_) AllReady.nil)
      · go_simp
        go_wp2_with fail
        refine (c2 _).mono ?_
        rintro e w3 ⟨rfl, hb3⟩
        show K _ w3
        refine hK _ _ ?_
        clear hK K
        go_simp
        have t2 := textAt (48 + (n : Int) % 10) (by omega) (by omega) w w3 hb3
        refine wpAny_ready (rs := [8]) (by kernel_rfl) (by simp) ?_
        refine AllReady.cons rfl (fun K hK => ?_) AllReady.nil
        go_simp
        refine hK _ _ ?_
        clear hK K
        go_simp
        refine wpAny_take (i := 9) (v := .string (db ++ ⟨#[Pl.by8 (48 + (n : Int) % 10)]⟩)) rfl (by kernel_rfl) (by kernel_rfl) (by kernel_rfl) (fun _ _ _ h => h) (Or.inl ⟨by rfl, ?_⟩) ?_
        · intro w
          go_simp
        go_simp
        refine wpAny_take (i := 10) (v := .string (db ++ ⟨#[Pl.by8 (48 + (n : Int) % 10)]⟩)) rfl (by kernel_rfl) (by kernel_rfl) (by kernel_rfl) (fun _ _ _ h => h) (Or.inl ⟨by rfl, ?_⟩) ?_
        · intro w
          go_simp
        go_simp
        refine wpAny_done (by kernel_rfl) ?_ _
        have hbz := (hbA _).drew.trans (hb3.mono (hbA (.cells #[.int .u8 (48 + (n : Int) % 10)] 5)).size)
        clear t0
        go_wp2
        go_ret
        exact ⟨rfl, hbz⟩
      · go_simp
        refine hK _ _ ?_
        clear hK K
        go_simp
        refine wpAny_ready (rs := [2]) (by kernel_rfl) (by simp) ?_
        refine AllReady.cons rfl (fun K hK => ?_) AllReady.nil
        go_simp
        go_wp2_with fail
        refine (c2 _).mono ?_
        rintro e w3 ⟨rfl, hb3⟩
        show K _ w3
        refine hK _ _ ?_
        clear hK K
        go_simp
        refine wpAny_take (i := 9) (v := .string (db ++ ⟨#[Pl.by8 (48 + (n : Int) % 10)]⟩)) rfl (by kernel_rfl) (by kernel_rfl) (by kernel_rfl) (fun _ _ _ h => h) (Or.inl ⟨by rfl, ?_⟩) ?_
        · intro w
          go_simp
        go_simp
        refine wpAny_take (i := 10) (v := .string (db ++ ⟨#[Pl.by8 (48 + (n : Int) % 10)]⟩)) rfl (by kernel_rfl) (by kernel_rfl) (by kernel_rfl) (fun _ _ _ h => h) (Or.inl ⟨by rfl, ?_⟩) ?_
        · intro w
          go_simp
        go_simp
        refine wpAny_done (by kernel_rfl) ?_ _
        have hbz := (hbA _).drew.trans (hb3.mono (hbA (.cells #[.int .u8 (48 + (n : Int) % 10)] 5)).size)
        clear t0
        go_wp2
        go_ret
        exact ⟨rfl, hbz⟩
set_option maxRecDepth 20000 in
theorem specDec : ∀ (n : Nat), n ≤ 2200000000 → ∀ w : World, Calls Tryz.prog 43 #[.int .i64 n] w fun e w' => e = .returned (.string ⟨(decDigits n).toArray⟩) ∧ Below w.heap.size w w' := by
  intro n
  induction n using Nat.strongRecOn with
  | ind n ih =>
    intro hn w
    by_cases h10 : n < 10
    · exact specDec1 n h10 w
    · exact specDecStep n hn h10 (fun w => ih (n / 10) (by omega) (by omega) w) w
end Go.Proofs.YtgabjiamabbheaaGreatDoor
