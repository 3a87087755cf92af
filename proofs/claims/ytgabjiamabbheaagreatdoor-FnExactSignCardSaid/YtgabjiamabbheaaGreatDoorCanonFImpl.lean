
/- CanonField, the program's side. -/
import Derived.Test.YtgabjiamabbheaaGreatDoorOneImpl
import Derived.Test.YtgabjiamabbheaaGreatDoorCanonFieldSpec
import Derived.Test.YtgabjiamabbheaaGreatDoorImplWriteHead
import Derived.Lib.TrimByte
namespace Go.Proofs.YtgabjiamabbheaaGreatDoor
open Go.RowKit Go.Lib
namespace Pl
def rdw (p : UInt8 → Bool) (l : List UInt8) : List UInt8 := (l.reverse.dropWhile p).reverse
set_option maxRecDepth 20000 in
theorem rdw_cons (p : UInt8 → Bool) (c : UInt8) (r : List UInt8) : rdw p (c :: r) = if rdw p r = [] ∧ p c = true then [] else c :: rdw p r := by
  unfold rdw
  rw [List.reverse_cons, List.dropWhile_append]
  cases h : (r.reverse.dropWhile p).isEmpty
  · rw [if_neg (by simp)]
    have hne : ¬ r.reverse.dropWhile p = [] := by intro e; rw [e] at h; simp at h
    rw [if_neg (by intro e; exact hne (by simpa using e.1))]
    simp
  · have he : r.reverse.dropWhile p = [] := by simpa using h
    rw [if_pos rfl, he]
    cases hp : p c <;> simp [hp]
set_option maxRecDepth 20000 in
theorem dw_rdw (p : UInt8 → Bool) : ∀ l : List UInt8, (rdw p l).dropWhile p = rdw p (l.dropWhile p)
  | [] => rfl
  | c :: r => by
    have ih := dw_rdw p r
    rw [rdw_cons, List.dropWhile_cons]
    cases hp : p c
    · rw [if_neg (by simp), if_neg (by simp), List.dropWhile_cons, if_neg (by rw [hp]; simp), rdw_cons, if_neg (by rw [hp]; simp)]
    · rw [if_pos rfl, ← ih]
      by_cases h0 : rdw p r = []
      · rw [if_pos ⟨h0, rfl⟩, h0]
      · rw [if_neg (fun e => h0 e.1), List.dropWhile_cons, if_pos hp]
set_option maxRecDepth 20000 in
theorem dw_congr (p q : UInt8 → Bool) : ∀ l : List UInt8, (∀ c ∈ l, p c = q c) → l.dropWhile p = l.dropWhile q
  | [], _ => rfl
  | c :: r, h => by
    rw [List.dropWhile_cons, List.dropWhile_cons, h c (by simp), dw_congr p q r (fun x hx => h x (List.mem_cons_of_mem _ hx))]
set_option maxRecDepth 20000 in
theorem rn_no9 : ∀ (l : List UInt8) (b : Bool), ∀ c ∈ rn b l, blank c = (c == 32)
  | [], b => fun c h => absurd h (by simp [rn])
  | a :: r, b => fun c h => by
    rw [rn] at h
    cases ha : blank a
    · rw [ha, if_neg (by simp)] at h
      rcases List.mem_cons.1 h with rfl | h
      · rw [ha]
        unfold blank at ha
        rw [Bool.or_eq_false_iff] at ha
        exact ha.1.symm
      · exact rn_no9 r false c h
    · rw [ha, if_pos rfl] at h
      cases b
      · rw [if_neg (by simp)] at h
        rcases List.mem_cons.1 h with rfl | h
        · rfl
        · exact rn_no9 r true c h
      · rw [if_pos rfl] at h
        exact rn_no9 r true c h
set_option maxRecDepth 20000 in
theorem bare_mem (r : List UInt8) (c : UInt8) (h : c ∈ bareEnd r) : c ∈ r := by
  unfold bareEnd at h
  split at h
  · exact List.dropLast_subset _ h
  · exact h
set_option maxRecDepth 20000 in
theorem bare_rdw (r : List UInt8) : rdw (· == 32) (bareEnd r) = rdw (· == 32) r := by
  unfold bareEnd
  split
  · rename_i hl
    unfold lastSp at hl
    rcases List.eq_nil_or_concat r with rfl | ⟨p, c, rfl⟩
    · rfl
    · have hc : c = 32 := by simpa using hl
      subst hc
      unfold rdw
      simp
  · rfl
set_option maxRecDepth 20000 in
theorem trim_one (u : List UInt8) : Lib.trimB (rn false u) 32 = trimB (runs u) := by
  have h9 : ∀ c ∈ bareEnd (rn false u), blank c = (c == 32) := fun c h => rn_no9 u false c (bare_mem _ c h)
  have h1 : (runs u).dropWhile blank = (runs u).dropWhile (· == 32) := dw_congr _ _ _ h9
  have h2 : ∀ c ∈ (runs u).dropWhile (· == 32), blank c = (c == 32) := fun c h => h9 c (List.dropWhile_subset _ h)
  unfold trimB endB
  rw [h1, dw_congr blank (· == 32) ((runs u).dropWhile (· == 32)).reverse (fun c h => h2 c (List.mem_reverse.1 h))]
  have h3 := dw_rdw (· == 32) (runs u)
  unfold runs at h3
  rw [bare_rdw] at h3
  exact h3
end Pl
set_option maxRecDepth 20000 in
theorem implIsForm (x : Int) (w : World) : Calls Tryz.prog 56 #[.int .i64 x] w fun e w' => e = .returned (.bool (x == 0 || x == 1)) ∧ w = w' := by
  cases h0 : (x == 0)
  · cases h1 : (x == 1)
    · go_enter Tryz.func56, Tryz.ntmps56
      go_wp2
      go_ret
      exact ⟨rfl, rfl⟩
    · go_enter Tryz.func56, Tryz.ntmps56
      go_wp2
      go_ret
      exact ⟨rfl, rfl⟩
  · go_enter Tryz.func56, Tryz.ntmps56
    go_wp2
    go_ret
    exact ⟨rfl, rfl⟩
set_option maxRecDepth 20000 in
theorem hd_text (n v : ByteArray) (h : ¬ Pl.hd [] [(n, v)] = []) : (⟨(Pl.hd [] [(n, v)]).toArray⟩ : ByteArray) = n ++ ⟨#[58]⟩ ++ v ++ ⟨#[13, 10]⟩ := by
  rw [Pl.hd] at h ⊢
  split at h
  · rename_i h1
    rw [if_pos h1]
    split at h
    · exact absurd rfl h
    · rename_i h2
      rw [if_neg h2, Pl.hd]
      apply ByteArray.ext
      simp [Pl.line]
  · exact absurd rfl h
set_option maxRecDepth 20000 in
set_option maxHeartbeats 2000000 in
theorem implCanonField (n v : ByteArray) (x : Int) (w : World) (hn : n.size ≤ 1048576) (hv : v.size ≤ 1048576) :
    Calls Tryz.prog 66 #[.agg #[.string n, .string v], .int .i64 x] w fun e w' => e = .returned (.string (canonF n v x)) ∧ Below w.heap.size w w' := by
  have hW := implWriteHead (some ⟨w.heap.size + 1, 0, none⟩) [(n, v)] 1 _ (one_fld n v w) (by simp) (fun f hf => by obtain rfl := List.mem_singleton.1 hf; exact ⟨hn, hv⟩)
  have hA : Below w.heap.size w ((w.alloc (.cells #[.string n, .string v] 51)).alloc (.cells #[.string n, .string v] 51)) := ((Below.refl _ _).alloc (Nat.le_refl _) _).alloc (by simp) _
  have hk : ((w.alloc (.cells #[.string n, .string v] 51)).alloc (.cells #[.string n, .string v] 51)).cell? ⟨w.heap.size, 0, none⟩ = some (.string n) ∧ ((w.alloc (.cells #[.string n, .string v] 51)).alloc (.cells #[.string n, .string v] 51)).cell? ⟨w.heap.size, 1, none⟩ = some (.string v) := by
    constructor <;> simp [World.cell?_alloc_old]
  have HE : Hid (¬ Pl.hd [] [(n, v)] = [] → (⟨(Pl.hd [] [(n, v)]).toArray⟩ : ByteArray) = n ++ ⟨#[58]⟩ ++ v ++ ⟨#[13, 10]⟩) := show _ → _ from hd_text n v
  obtain ⟨T, hT⟩ : ∃ T : ByteArray, T = ⟨(Pl.hd [] [(n, v)]).toArray⟩ := ⟨_, rfl⟩
  rw [← hT] at hW HE
  have HT : Hid (T.toList.isEmpty = true ↔ Pl.hd [] [(n, v)] = []) := show _ ↔ _ from by
    rw [hT, ByteArray.toList_eq]
    simp
  clear hT
  obtain ⟨R, hR⟩ : ∃ R, canonF n v x = R := ⟨_, rfl⟩
  have HR : Hid (canonF n v x = R) := hR
  rw [hR]
  clear hR
  have hF := fun w => implIsForm x w
  go_enter Tryz.func66, Tryz.ntmps66
  go_wp2_with fail
  refine hW.mono ?_
  rintro e w2 ⟨rfl, hb2⟩
  have Hbw : Hid (Below w.heap.size w w2) := hA.trans (hb2.mono hA.size)
  have k0 := (hb2.cell (World.block_lt_of_cell? _ _ hk.1)).trans hk.1
  have k1 := (hb2.cell (World.block_lt_of_cell? _ _ hk.2)).trans hk.2
  clear hW hA hb2 hk
  cases hTe : T.toList.isEmpty
  · have hne : ¬ Pl.hd [] [(n, v)] = [] := fun e => by have := HT.out.2 e; rw [hTe] at this; cases this
    have hs := hd_one n v hne
    have Hne : Hid (¬ Pl.hd [] [(n, v)] = []) := hne
    have HTe : Hid (T = n ++ ⟨#[58]⟩ ++ v ++ ⟨#[13, 10]⟩) := HE.out hne
    clear hne HT HE
    by_cases h0 : x = 0
    · subst h0
      go_wp2_with fail
      refine (hF _).mono ?_
      rintro e w3 ⟨rfl, rfl⟩
      go_wp2
      go_ret
      exact ⟨by rw [← HR.out, canonF, if_neg Hne.out, if_pos rfl, ← HTe.out]; rfl, Hbw.out⟩
    · have e0 : (x == 0) = false := beq_eq_false_iff_ne.2 h0
      have H0 : Hid (¬ x = 0) := h0
      clear h0
      rw [e0] at hF
      by_cases h1 : x = 1
      · have e1 : (x == 1) = true := by rw [h1]; rfl
        rw [e1] at hF
        have H1 : Hid (x = 1) := h1
        clear h1
        have hlu : (Pl.unf false v.data.toList).length ≤ 100000 := by
          have := Pl.unf_len v.data.toList false
          rw [Pl.len_list] at this
          omega
        have hlr : (Pl.rn false (Pl.unf false v.data.toList)).length ≤ 100000 := Nat.le_trans (Pl.rn_len _ _) hlu
        have hlt : (relaxV v).length ≤ 100000 := Nat.le_trans (Pl.trimB_len _) (Nat.le_trans (Pl.runs_len _) hlu)
        have bs : ∀ l : List UInt8, l.length ≤ 100000 → (⟨l.toArray⟩ : ByteArray).size ≤ 100000 := fun l h => by show l.toArray.size ≤ _; rw [List.size_toArray]; exact h
        have hL := fun w => implLowered n w hs.1
        have hU := fun w => implUnfolded v w (by omega)
        have hN : ∀ w : World, Calls Tryz.prog 59 #[.string ⟨(Pl.unf false v.data.toList).toArray⟩] w fun e w' => e = .returned (.string ⟨(Pl.rn false (Pl.unf false v.data.toList)).toArray⟩) ∧ Below w.heap.size w w' := fun w => implOneSpaced ⟨(Pl.unf false v.data.toList).toArray⟩ w (bs _ hlu)
        have hM : ∀ w : World, Calls Tryz.prog 94 #[.string ⟨(Pl.rn false (Pl.unf false v.data.toList)).toArray⟩, .string ⟨#[32]⟩] w fun e w' => e = .returned (.string ⟨(relaxV v).toArray⟩) ∧ Below w.heap.size w w' := fun w => (Tryz.strings_Trim_one ⟨(Pl.rn false (Pl.unf false v.data.toList)).toArray⟩ 32 (by decide) w (Nat.le_trans (bs _ hlr) (by omega))).mono fun e w' ⟨he, hw⟩ => ⟨by rw [he]; show Ending.returned (Value.string ⟨(Lib.trimB (Pl.rn false (Pl.unf false v.data.toList)) 32).toArray⟩) = _; rw [Pl.trim_one]; rfl, by rcases hw with rfl | rfl; exact Below.refl _ _; exact (Below.refl _ _).drew⟩
        have zl : (⟨(lower n.data.toList).toArray⟩ : ByteArray).size ≤ 100000 := bs _ (by unfold lower; rw [List.length_map, Pl.len_list]; exact hs.1)
        have zt : (⟨(relaxV v).toArray⟩ : ByteArray).size ≤ 100000 := bs _ hlt
        have HR2 : Hid ((⟨(lower n.data.toList).toArray⟩ : ByteArray) ++ ⟨#[58]⟩ ++ ⟨(relaxV v).toArray⟩ ++ ⟨#[13, 10]⟩ = R) := by
          show _ = _
          rw [← HR.out, canonF, if_neg Hne.out, if_neg H0.out, if_pos H1.out]
        clear HR Hne H0 H1 hlu hlr hlt bs HTe
        generalize (⟨(relaxV v).toArray⟩ : ByteArray) = tt at *
        generalize (⟨(Pl.rn false (Pl.unf false v.data.toList)).toArray⟩ : ByteArray) = tr at *
        generalize (⟨(Pl.unf false v.data.toList).toArray⟩ : ByteArray) = tu at *
        generalize (⟨(lower n.data.toList).toArray⟩ : ByteArray) = tl at *
        have k0' := cell_regrown k0
        have k1' := cell_regrown k1
        have cL : ∀ d os, Calls Tryz.prog 93 #[.string n] (Go.Sort.grow (redrawn w2 d) os) fun e w'' => e = .returned (.string tl) ∧ ∃ p : Regrown, w'' = Go.Sort.grow (redrawn w2 p.d) p.os := fun d os => Calls.regrown_of (hL _)
        have cU : ∀ d os, Calls Tryz.prog 95 #[.string v] (Go.Sort.grow (redrawn w2 d) os) fun e w'' => e = .returned (.string tu) ∧ ∃ p : Regrown, w'' = Go.Sort.grow (redrawn w2 p.d) p.os := fun d os => Calls.regrown_of (hU _)
        have cN : ∀ d os, Calls Tryz.prog 59 #[.string tu] (Go.Sort.grow (redrawn w2 d) os) fun e w'' => e = .returned (.string tr) ∧ ∃ p : Regrown, w'' = Go.Sort.grow (redrawn w2 p.d) p.os := fun d os => Calls.regrown_of (hN _)
        have cM : ∀ d os, Calls Tryz.prog 94 #[.string tr, .string ⟨#[32]⟩] (Go.Sort.grow (redrawn w2 d) os) fun e w'' => e = .returned (.string tt) ∧ ∃ p : Regrown, w'' = Go.Sort.grow (redrawn w2 p.d) p.os := fun d os => Calls.regrown_of (hM _)
        have HL := (show Hid _ from cL)
        have HU := (show Hid _ from cU)
        have HN := (show Hid _ from cN)
        have HM := (show Hid _ from cM)
        clear cL cU cN cM hL hU hN hM
        have n0 : ¬ 9223372036854775807 < tl.size + 1 := by omega
        have n1 : ¬ 9223372036854775807 < tl.size + 1 + tt.size := by omega
        have n2 : ¬ 9223372036854775807 < tl.size + 1 + tt.size + 2 := by omega
        go_wp2_with fail
        refine (hF _).mono ?_
        rintro e w3 ⟨rfl, rfl⟩
        go_wp2
        refine wp_region_quiet_below (by kernel_rfl) (by kernel_rfl) ?_
        quiet_step (fail)
        quiet_step (fail)
        quiet_step (exact HL.out _ _)
        quiet_step (fail)
        quiet_step (fail)
        quiet_step (fail)
        quiet_step (exact HU.out _ _)
        quiet_step (exact HN.out _ _)
        quiet_step (exact HM.out _ _)
        repeat (quiet_step (fail))
        refine wpQuiet_nil ?_
        intro _ hw'
        obtain ⟨⟨dq, osq⟩, hw''⟩ := hw'
        subst hw''
        have hbq := Hbw.out.trans ((below_regrown w2 dq osq).mono Hbw.out.size)
        go_wp2
        go_ret
        exact ⟨by rw [← HR2.out]; rfl, hbq⟩
      · have e1 : (x == 1) = false := beq_eq_false_iff_ne.2 h1
        have H1 : Hid (¬ x = 1) := h1
        rw [e1] at hF
        clear h1
        go_wp2_with fail
        refine (hF _).mono ?_
        rintro e w3 ⟨rfl, rfl⟩
        go_wp2
        go_ret
        exact ⟨by rw [← HR.out, canonF, if_neg Hne.out, if_neg H0.out, if_neg H1.out]; rfl, Hbw.out⟩
  · have he : Pl.hd [] [(n, v)] = [] := HT.out.1 hTe
    have He : Hid (Pl.hd [] [(n, v)] = []) := he
    clear he HT
    go_wp2
    go_ret
    exact ⟨by rw [← HR.out, canonF, if_pos He.out]; rfl, Hbw.out⟩
end Go.Proofs.YtgabjiamabbheaaGreatDoor
