
/- CanonField, the specification's side. -/
import Derived.Test.YtgabjiamabbheaaGreatDoorRunsSpec
import Derived.Test.YtgabjiamabbheaaGreatDoorLow
import Derived.Test.YtgabjiamabbheaaGreatDoorWriteHead
import Derived.Test.YtgabjiamabbheaaGreatDoorUnfold
import Derived.Lib.QuietBelow
import Derived.Deep.QuietTactic
import Derived.BigQuiet
namespace Go.Proofs.YtgabjiamabbheaaGreatDoor
open Go.RowKit Go.Lib
def relaxV (v : ByteArray) : List UInt8 := Pl.trimB (Pl.runs (Pl.unf false v.data.toList))
def canonF (n v : ByteArray) (x : Int) : ByteArray :=
  if Pl.hd [] [(n, v)] = [] then ⟨#[]⟩
  else if x = 0 then n ++ ⟨#[58]⟩ ++ v ++ ⟨#[13, 10]⟩
  else if x = 1 then ⟨(lower n.data.toList).toArray⟩ ++ ⟨#[58]⟩ ++ ⟨(relaxV v).toArray⟩ ++ ⟨#[13, 10]⟩
  else ⟨#[]⟩
namespace Pl
set_option maxRecDepth 20000 in
theorem rn_len : ∀ (l : List UInt8) (b : Bool), (rn b l).length ≤ l.length
  | [], b => by simp [rn]
  | c :: r, b => by
    have h1 := rn_len r true
    have h2 := rn_len r false
    rw [rn]
    split
    · split
      · simp; omega
      · simp; omega
    · simp; omega
set_option maxRecDepth 20000 in
theorem runs_len (l : List UInt8) : (runs l).length ≤ l.length := by
  have := rn_len l false
  unfold runs bareEnd
  split
  · rw [List.length_dropLast]; omega
  · exact this
set_option maxRecDepth 20000 in
theorem dropW_len : ∀ (l : List UInt8), (l.dropWhile blank).length ≤ l.length
  | [] => by simp
  | c :: r => by
    rw [List.dropWhile_cons]
    split
    · have := dropW_len r; simp; omega
    · simp
set_option maxRecDepth 20000 in
theorem trimB_len (l : List UInt8) : (trimB l).length ≤ l.length := by
  unfold trimB endB
  rw [List.length_reverse]
  have h1 := dropW_len (l.dropWhile blank).reverse
  have h2 := dropW_len l
  rw [List.length_reverse] at h1
  omega
end Pl
set_option maxRecDepth 20000 in
theorem hd_one (n v : ByteArray) (h : ¬ Pl.hd [] [(n, v)] = []) : n.size ≤ 100000 ∧ v.size ≤ 100000 := by
  rw [Pl.hd] at h
  split at h
  · split at h
    · exact absurd rfl h
    · rename_i hl
      rw [List.nil_append, Pl.line_len] at hl
      exact ⟨by show n.size ≤ _; simp at hl; omega, by show v.size ≤ _; simp at hl; omega⟩
  · exact absurd rfl h
set_option maxRecDepth 20000 in
theorem one_fld (n v : ByteArray) (w : World) : Fld (((w.alloc (.cells #[.string n, .string v] 51)).alloc (.cells #[.string n, .string v] 51))).heap.size ((w.alloc (.cells #[.string n, .string v] 51)).alloc (.cells #[.string n, .string v] 51)) (some ⟨w.heap.size + 1, 0, none⟩) [(n, v)] := by
  intro i hi
  obtain rfl : i = 0 := by simp at hi; omega
  refine ⟨_, rfl, by simp, ?_, ?_⟩
  · rw [add_off]; simp
  · rw [add_off]; simp
set_option maxRecDepth 20000 in
set_option maxHeartbeats 1000000 in
theorem specCanonField (n v : ByteArray) (x : Int) (w : World) (hn : n.size ≤ 1048576) (hv : v.size ≤ 1048576) :
    Calls Tryz.prog 45 #[.agg #[.string n, .string v], .int .i64 x] w fun e w' => e = .returned (.string (canonF n v x)) ∧ Below w.heap.size w w' := by
  have hW := specWriteHead (some ⟨w.heap.size + 1, 0, none⟩) [(n, v)] 1 _ (one_fld n v w) (by simp) (fun f hf => by obtain rfl := List.mem_singleton.1 hf; exact ⟨hn, hv⟩)
  have hA : Below w.heap.size w ((w.alloc (.cells #[.string n, .string v] 51)).alloc (.cells #[.string n, .string v] 51)) := ((Below.refl _ _).alloc (Nat.le_refl _) _).alloc (by simp) _
  have hk : ((w.alloc (.cells #[.string n, .string v] 51)).alloc (.cells #[.string n, .string v] 51)).cell? ⟨w.heap.size, 0, none⟩ = some (.string n) ∧ ((w.alloc (.cells #[.string n, .string v] 51)).alloc (.cells #[.string n, .string v] 51)).cell? ⟨w.heap.size, 1, none⟩ = some (.string v) := by
    constructor <;> simp [World.cell?_alloc_old]
  obtain ⟨T, hT⟩ : ∃ T : ByteArray, T = ⟨(Pl.hd [] [(n, v)]).toArray⟩ := ⟨_, rfl⟩
  rw [← hT] at hW
  have HT : Hid (T.toList.isEmpty = true ↔ Pl.hd [] [(n, v)] = []) := show _ ↔ _ from by
    rw [hT, ByteArray.toList_eq]
    simp
  clear hT
  obtain ⟨R, hR⟩ : ∃ R, canonF n v x = R := ⟨_, rfl⟩
  have HR : Hid (canonF n v x = R) := hR
  rw [hR]
  clear hR
  go_enter Tryz.func45, Tryz.ntmps45
  go_wp2_with fail
  refine hW.mono ?_
  rintro e w2 ⟨rfl, hb2⟩
  have Hbw : Hid (Below w.heap.size w w2) := hA.trans (hb2.mono hA.size)
  have k0 := (hb2.cell (World.block_lt_of_cell? _ _ hk.1)).trans hk.1
  have k1 := (hb2.cell (World.block_lt_of_cell? _ _ hk.2)).trans hk.2
  clear hW hA hb2 hk
  cases hTe : T.toList.isEmpty
  · have hne : ¬ Pl.hd [] [(n, v)] = [] := fun e => by have := HT.out.2 e; rw [hTe] at this; cases this
    have hs := hd_one n v hne
    have Hne : Hid (¬ Pl.hd [] [(n, v)] = []) := hne
    clear hne HT
    by_cases h0 : x = 0
    · have e0 : (x == 0) = true := by rw [h0]; rfl
      have H0 : Hid (x = 0) := h0
      clear h0
      go_wp2
      go_ret
      exact ⟨by rw [← HR.out, canonF, if_neg Hne.out, if_pos H0.out]; rfl, Hbw.out⟩
    · have e0 : (x == 0) = false := beq_eq_false_iff_ne.2 h0
      have H0 : Hid (¬ x = 0) := h0
      clear h0
      by_cases h1 : x = 1
      · have e1 : (x == 1) = true := by rw [h1]; rfl
        have H1 : Hid (x = 1) := h1
        clear h1
        have hlu : (Pl.unf false v.data.toList).length ≤ 100000 := by
          have := Pl.unf_len v.data.toList false
          rw [Pl.len_list] at this
          omega
        have hlr : (Pl.runs (Pl.unf false v.data.toList)).length ≤ 100000 := Nat.le_trans (Pl.runs_len _) hlu
        have hlt : (relaxV v).length ≤ 100000 := Nat.le_trans (Pl.trimB_len _) hlr
        have bs : ∀ l : List UInt8, l.length ≤ 100000 → (⟨l.toArray⟩ : ByteArray).size ≤ 100000 := fun l h => by show l.toArray.size ≤ _; rw [List.size_toArray]; exact h
        have hL := fun w => specLower n w hs.1
        have hU := fun w => specUnfold v w hs.2
        have hN := fun w => specRuns ⟨(Pl.unf false v.data.toList).toArray⟩ w (bs _ hlu)
        have hM := fun w => specTrimB ⟨(Pl.runs (Pl.unf false v.data.toList)).toArray⟩ w (Nat.le_trans (bs _ hlr) (by omega))
        have zl : (⟨(lower n.data.toList).toArray⟩ : ByteArray).size ≤ 100000 := bs _ (by unfold lower; rw [List.length_map, Pl.len_list]; exact hs.1)
        have zt : (⟨(relaxV v).toArray⟩ : ByteArray).size ≤ 100000 := bs _ hlt
        have HR2 : Hid ((⟨(lower n.data.toList).toArray⟩ : ByteArray) ++ ⟨#[58]⟩ ++ ⟨(relaxV v).toArray⟩ ++ ⟨#[13, 10]⟩ = R) := by
          show _ = _
          rw [← HR.out, canonF, if_neg Hne.out, if_neg H0.out, if_pos H1.out]
        have hM2 : ∀ w : World, Calls Tryz.prog 73 #[.string ⟨(Pl.runs (Pl.unf false v.data.toList)).toArray⟩] w fun e w' => e = .returned (.string ⟨(relaxV v).toArray⟩) ∧ w = w' := hM
        have hN2 : ∀ w : World, Calls Tryz.prog 42 #[.string ⟨(Pl.unf false v.data.toList).toArray⟩] w fun e w' => e = .returned (.string ⟨(Pl.runs (Pl.unf false v.data.toList)).toArray⟩) ∧ Below w.heap.size w w' := hN
        clear hM hN HR Hne H0 H1 hlu hlr hlt bs
        generalize (⟨(relaxV v).toArray⟩ : ByteArray) = tt at *
        generalize (⟨(Pl.runs (Pl.unf false v.data.toList)).toArray⟩ : ByteArray) = tr at *
        generalize (⟨(Pl.unf false v.data.toList).toArray⟩ : ByteArray) = tu at *
        generalize (⟨(lower n.data.toList).toArray⟩ : ByteArray) = tl at *
        have k0' := cell_regrown k0
        have k1' := cell_regrown k1
        have cL : ∀ d os, Calls Tryz.prog 72 #[.string n] (Go.Sort.grow (redrawn w2 d) os) fun e w'' => e = .returned (.string tl) ∧ ∃ p : Regrown, w'' = Go.Sort.grow (redrawn w2 p.d) p.os := fun d os => Calls.regrown_of (hL _)
        have cU : ∀ d os, Calls Tryz.prog 74 #[.string v] (Go.Sort.grow (redrawn w2 d) os) fun e w'' => e = .returned (.string tu) ∧ ∃ p : Regrown, w'' = Go.Sort.grow (redrawn w2 p.d) p.os := fun d os => Calls.regrown_of (hU _)
        have cN : ∀ d os, Calls Tryz.prog 42 #[.string tu] (Go.Sort.grow (redrawn w2 d) os) fun e w'' => e = .returned (.string tr) ∧ ∃ p : Regrown, w'' = Go.Sort.grow (redrawn w2 p.d) p.os := fun d os => Calls.regrown_of (hN2 _)
        have cM : ∀ d os, Calls Tryz.prog 73 #[.string tr] (Go.Sort.grow (redrawn w2 d) os) fun e w'' => e = .returned (.string tt) ∧ ∃ p : Regrown, w'' = Go.Sort.grow (redrawn w2 p.d) p.os := fun d os => Calls.regrown_of ((hM2 _).mono fun e w' ⟨he, hw⟩ => ⟨he, by rw [hw]; exact Below.refl _ _⟩)
        have HL := (show Hid _ from cL)
        have HU := (show Hid _ from cU)
        have HN := (show Hid _ from cN)
        have HM := (show Hid _ from cM)
        clear cL cU cN cM hL hU hN2 hM2
        have n0 : ¬ 9223372036854775807 < tl.size + 1 := by omega
        have n1 : ¬ 9223372036854775807 < tl.size + 1 + tt.size := by omega
        have n2 : ¬ 9223372036854775807 < tl.size + 1 + tt.size + 2 := by omega
        go_wp2
        refine wp_region_quiet_below (by kernel_rfl) (by kernel_rfl) ?_
        quiet_step (fail)
        quiet_step (fail)
        quiet_step (exact HL.out _ _)
        quiet_step (fail)
        quiet_step (fail)
        quiet_step (fail)
        quiet_step (exact HU.out _ _)
        quiet_step (exact HN.out _ _)
        quiet_step (exact HM.out _ _)
        repeat (quiet_step (fail))
        refine wpQuiet_nil ?_
        intro _ hw'
        obtain ⟨⟨dq, osq⟩, hw''⟩ := hw'
        subst hw''
        have hbq := Hbw.out.trans ((below_regrown w2 dq osq).mono Hbw.out.size)
        go_wp2
        go_ret
        exact ⟨by rw [← HR2.out]; rfl, hbq⟩
      · have e1 : (x == 1) = false := beq_eq_false_iff_ne.2 h1
        have H1 : Hid (¬ x = 1) := h1
        clear h1
        go_wp2
        go_ret
        exact ⟨by rw [← HR.out, canonF, if_neg Hne.out, if_neg H0.out, if_neg H1.out]; rfl, Hbw.out⟩
  · have he : Pl.hd [] [(n, v)] = [] := HT.out.1 hTe
    have He : Hid (Pl.hd [] [(n, v)] = []) := he
    clear he HT
    go_wp2
    go_ret
    exact ⟨by rw [← HR.out, canonF, if_pos He.out]; rfl, Hbw.out⟩
end Go.Proofs.YtgabjiamabbheaaGreatDoor
