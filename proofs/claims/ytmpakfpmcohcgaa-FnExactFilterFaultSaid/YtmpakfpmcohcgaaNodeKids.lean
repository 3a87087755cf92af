
/- What a node's kids may be, on the specification's side. -/
import Derived.Test.YtmpakfpmcohcgaaNodeFields2
namespace Go.Proofs.Ytmpakfpmcohcgaa
open Go.RowKit Go.Lib Go.Maps
namespace Fn
/-- Whether a kid of a kind may stand at a place. -/
def kidOk (kind : Int) (i : Nat) (k : Int) : Bool :=
  if kind = 1 then isCmd k else
  if kind = 2 then (((i : Int) == 0) && isTest k) || ((((i : Int) == 1) && (k == 1)) || (((i : Int) == 2) && ((k == 1) || (k == 2)))) else
  if kind = 3 then ((i : Int) == 0) && (k == 1) else
  if kind = 22 then ((i : Int) == 0) && isTest k else
  if kind = 23 ∨ kind = 24 then isTest k else false
def kidsFrom (kind : Int) : Nat → List Int → Bool
  | _, [] => true
  | i, k :: r => kidOk kind i k && kidsFrom kind (i + 1) r
def least (kind : Int) (n : Nat) : Bool :=
  if kind = 2 then decide (2 ≤ (n : Int)) else if kind = 3 ∨ kind = 22 ∨ kind = 23 ∨ kind = 24 then decide (1 ≤ (n : Int)) else true
def kidsOk (kind : Int) (ks : List Int) : Bool := kidsFrom kind 0 ks && least kind ks.length
theorem from_step (kind : Int) (ks : List Int) (i : Nat) (h : i < ks.length) : kidsFrom kind i (ks.drop i) = (kidOk kind i ks[i] && kidsFrom kind (i + 1) (ks.drop (i + 1))) := by
  rw [List.drop_eq_getElem_cons h, kidsFrom]
end Fn
set_option maxHeartbeats 2000000 in
set_option maxRecDepth 20000 in
theorem specKids1 (num mat : Int) (text : ByteArray) (v1 v2 : Value) (o od : Option Addr) (F : List Nd) (kids ks : List Int) (cap cd : Nat) (w : World) (hF : Nds w.heap.size w o F) (hk : Ints w.heap.size w od kids) (_ : kids.length ≤ 1048576) (_ : F.length ≤ 1048576) (hks : ks.length = kids.length) (hin : ∀ i (h : i < kids.length) (h' : i < ks.length), ∃ q : Nat, kids[i] = (q : Int) ∧ ∃ hq : q < F.length, F[q].kind = ks[i]) :
    Calls Try.prog 18 #[.slice o F.length cap, .agg #[.int .i64 1, .int .i64 num, .int .i64 mat, .string text, v1, v2, .slice od kids.length cd]] w fun e w' => e = .returned (.bool (Fn.kidsOk 1 ks)) ∧ Below w.heap.size w w' := by
  obtain ⟨A, hA⟩ : ∃ A, Fn.kidsFrom 1 0 ks = A := ⟨_, rfl⟩
  have hans : Hid (Fn.kidsOk 1 ks = (A && Fn.least 1 kids.length)) := by
    unfold Fn.kidsOk
    rw [hA, hks]
    exact rfl
  rw [hans.out]
  have hbA : Below w.heap.size w (w.alloc (.cells #[.int .i64 1, .int .i64 num, .int .i64 mat, .string text, v1, v2, .slice od kids.length cd] 34)) := (Below.refl _ _).alloc (Nat.le_refl _) _
  have hF := mkH (hF.below hbA)
  have hk := mkH (hk.below hbA)
  have hin := mkH hin
  have hks := mkH hks
  have HA := mkH hA
  have hB : (w.alloc (.cells #[.int .i64 1, .int .i64 num, .int .i64 mat, .string text, v1, v2, .slice od kids.length cd] 34)).heap[w.heap.size]? = some (.cells #[.int .i64 1, .int .i64 num, .int .i64 mat, .string text, v1, v2, .slice od kids.length cd] 34 (0, 0)) := hp_allocN _ _
  have q0 : (w.alloc (.cells #[.int .i64 1, .int .i64 num, .int .i64 mat, .string text, v1, v2, .slice od kids.length cd] 34)).cell? ⟨w.heap.size, 0, none⟩ = some (.int .i64 1) := by simp
  have q6 : (w.alloc (.cells #[.int .i64 1, .int .i64 num, .int .i64 mat, .string text, v1, v2, .slice od kids.length cd] 34)).cell? ⟨w.heap.size, 6, none⟩ = some (.slice od kids.length cd) := by simp
  obtain ⟨W, hW⟩ : ∃ W, W = w.alloc (.cells #[.int .i64 1, .int .i64 num, .int .i64 mat, .string text, v1, v2, .slice od kids.length cd] 34) := ⟨_, rfl⟩
  have HW := mkH hW
  rw [← hW] at hF hk q0 q6 hbA
  clear hans hA hW hB
  have hbA := mkH hbA
  go_enter Try.func18, Try.ntmps18
  go_wp2
  rw [← HW.out]
  clear HW
  generalize hG : w.heap.size = G at *
  go_loopw [5] (fun iv wr => ∃ i : Nat, i ≤ kids.length ∧ iv = .int .i64 i ∧ Hid (Fn.kidsFrom 1 i (ks.drop i) = A) ∧ wr = W) (fun iv _ => kids.length - (Lib.intOf iv).toNat)
  case atStart => exact ⟨0, Nat.zero_le _, rfl, HA, rfl⟩
  case round =>
    obtain ⟨i, hi, rfl, hfr, hWr⟩ := hrel
    have hWr' : wr = W := hWr
    clear hWr
    subst hWr'
    by_cases hlt : i < kids.length
    · have hls : i < ks.length := by rw [hks.out]; exact hlt
      obtain ⟨q, hq, hqF, hqk⟩ := hin.out i hlt hls
      obtain ⟨a, rfl, ha, ck⟩ := hk.out i hlt
      obtain ⟨b, vn, vk, vd, rfl, hb, hN, -⟩ := hF.out q hqF
      rw [hq] at ck
      have cn := hN.c0
      rw [hqk] at cn
      have hst := mkH (hfr.out.symm.trans (Fn.from_step 1 ks i hls))
      clear hN hq hqk hfr hF hk hin hks
      generalize ks[i] = x at *
      cases hc : Fn.isCmd x
      · have hL := specIsCmd x wr
        rw [hc] at hL
        have hf : Hid (A = false) := by rw [hst.out, show Fn.kidOk 1 i x = false from hc]; exact Bool.false_and _
        clear hst hc
        go_wp2_with fail
        refine hL.mono ?_
        rintro e w2 ⟨rfl, rfl⟩
        go_wp2
        go_ret
        rw [hf.out]
        exact ⟨rfl, by rw [hG]; exact hbA.out⟩
      · have hL := specIsCmd x wr
        rw [hc] at hL
        have hf : Hid (Fn.kidsFrom 1 (i + 1) (ks.drop (i + 1)) = A) := by rw [hst.out, show Fn.kidOk 1 i x = true from hc]; exact (Bool.true_and _).symm
        clear hst hc
        go_wp2_with fail
        refine hL.mono ?_
        rintro e w2 ⟨rfl, rfl⟩
        go_wp2
        go_roundw
        case rel => exact ⟨i + 1, by omega, by go_num, hf, trivial⟩
        case measure => simp [Lib.intOf]; omega
    · have hf : Hid (A = true) := by
        have := hfr.out
        rw [List.drop_eq_nil_of_le (by rw [hks.out]; omega)] at this
        exact this.symm
      clear hfr hF hk hin hks
      go_wp2
      go_ret
      rw [hf.out]
      exact ⟨rfl, by rw [hG]; exact hbA.out⟩
set_option maxHeartbeats 2000000 in
set_option maxRecDepth 20000 in
theorem specKids23 (num mat : Int) (text : ByteArray) (v1 v2 : Value) (o od : Option Addr) (F : List Nd) (kids ks : List Int) (cap cd : Nat) (w : World) (hF : Nds w.heap.size w o F) (hk : Ints w.heap.size w od kids) (_ : kids.length ≤ 1048576) (_ : F.length ≤ 1048576) (hks : ks.length = kids.length) (hin : ∀ i (h : i < kids.length) (h' : i < ks.length), ∃ q : Nat, kids[i] = (q : Int) ∧ ∃ hq : q < F.length, F[q].kind = ks[i]) :
    Calls Try.prog 18 #[.slice o F.length cap, .agg #[.int .i64 23, .int .i64 num, .int .i64 mat, .string text, v1, v2, .slice od kids.length cd]] w fun e w' => e = .returned (.bool (Fn.kidsOk 23 ks)) ∧ Below w.heap.size w w' := by
  obtain ⟨A, hA⟩ : ∃ A, Fn.kidsFrom 23 0 ks = A := ⟨_, rfl⟩
  have hans : Hid (Fn.kidsOk 23 ks = (A && Fn.least 23 kids.length)) := by
    unfold Fn.kidsOk
    rw [hA, hks]
    exact rfl
  rw [hans.out]
  have hbA : Below w.heap.size w (w.alloc (.cells #[.int .i64 23, .int .i64 num, .int .i64 mat, .string text, v1, v2, .slice od kids.length cd] 34)) := (Below.refl _ _).alloc (Nat.le_refl _) _
  have hF := mkH (hF.below hbA)
  have hk := mkH (hk.below hbA)
  have hin := mkH hin
  have hks := mkH hks
  have HA := mkH hA
  have hB : (w.alloc (.cells #[.int .i64 23, .int .i64 num, .int .i64 mat, .string text, v1, v2, .slice od kids.length cd] 34)).heap[w.heap.size]? = some (.cells #[.int .i64 23, .int .i64 num, .int .i64 mat, .string text, v1, v2, .slice od kids.length cd] 34 (0, 0)) := hp_allocN _ _
  have q0 : (w.alloc (.cells #[.int .i64 23, .int .i64 num, .int .i64 mat, .string text, v1, v2, .slice od kids.length cd] 34)).cell? ⟨w.heap.size, 0, none⟩ = some (.int .i64 23) := by simp
  have q6 : (w.alloc (.cells #[.int .i64 23, .int .i64 num, .int .i64 mat, .string text, v1, v2, .slice od kids.length cd] 34)).cell? ⟨w.heap.size, 6, none⟩ = some (.slice od kids.length cd) := by simp
  obtain ⟨W, hW⟩ : ∃ W, W = w.alloc (.cells #[.int .i64 23, .int .i64 num, .int .i64 mat, .string text, v1, v2, .slice od kids.length cd] 34) := ⟨_, rfl⟩
  have HW := mkH hW
  rw [← hW] at hF hk q0 q6 hbA
  clear hans hA hW hB
  have hbA := mkH hbA
  go_enter Try.func18, Try.ntmps18
  go_wp2
  rw [← HW.out]
  clear HW
  generalize hG : w.heap.size = G at *
  go_loopw [5] (fun iv wr => ∃ i : Nat, i ≤ kids.length ∧ iv = .int .i64 i ∧ Hid (Fn.kidsFrom 23 i (ks.drop i) = A) ∧ wr = W) (fun iv _ => kids.length - (Lib.intOf iv).toNat)
  case atStart => exact ⟨0, Nat.zero_le _, rfl, HA, rfl⟩
  case round =>
    obtain ⟨i, hi, rfl, hfr, hWr⟩ := hrel
    have hWr' : wr = W := hWr
    clear hWr
    subst hWr'
    by_cases hlt : i < kids.length
    · have hls : i < ks.length := by rw [hks.out]; exact hlt
      obtain ⟨q, hq, hqF, hqk⟩ := hin.out i hlt hls
      obtain ⟨a, rfl, ha, ck⟩ := hk.out i hlt
      obtain ⟨b, vn, vk, vd, rfl, hb, hN, -⟩ := hF.out q hqF
      rw [hq] at ck
      have cn := hN.c0
      rw [hqk] at cn
      have hst := mkH (hfr.out.symm.trans (Fn.from_step 23 ks i hls))
      clear hN hq hqk hfr hF hk hin hks
      generalize ks[i] = x at *
      cases hc : Fn.isTest x
      · have hL := specIsTest x wr
        rw [hc] at hL
        have hf : Hid (A = false) := by rw [hst.out, show Fn.kidOk 23 i x = false from hc]; exact Bool.false_and _
        clear hst hc
        go_wp2_with fail
        refine hL.mono ?_
        rintro e w2 ⟨rfl, rfl⟩
        go_wp2
        go_ret
        rw [hf.out]
        exact ⟨rfl, by rw [hG]; exact hbA.out⟩
      · have hL := specIsTest x wr
        rw [hc] at hL
        have hf : Hid (Fn.kidsFrom 23 (i + 1) (ks.drop (i + 1)) = A) := by rw [hst.out, show Fn.kidOk 23 i x = true from hc]; exact (Bool.true_and _).symm
        clear hst hc
        go_wp2_with fail
        refine hL.mono ?_
        rintro e w2 ⟨rfl, rfl⟩
        go_wp2
        go_roundw
        case rel => exact ⟨i + 1, by omega, by go_num, hf, trivial⟩
        case measure => simp [Lib.intOf]; omega
    · have hf : Hid (A = true) := by
        have := hfr.out
        rw [List.drop_eq_nil_of_le (by rw [hks.out]; omega)] at this
        exact this.symm
      clear hfr hF hk hin hks
      go_wp2
      go_ret
      rw [hf.out]
      exact ⟨rfl, by rw [hG]; exact hbA.out⟩
set_option maxHeartbeats 2000000 in
set_option maxRecDepth 20000 in
theorem specKids24 (num mat : Int) (text : ByteArray) (v1 v2 : Value) (o od : Option Addr) (F : List Nd) (kids ks : List Int) (cap cd : Nat) (w : World) (hF : Nds w.heap.size w o F) (hk : Ints w.heap.size w od kids) (_ : kids.length ≤ 1048576) (_ : F.length ≤ 1048576) (hks : ks.length = kids.length) (hin : ∀ i (h : i < kids.length) (h' : i < ks.length), ∃ q : Nat, kids[i] = (q : Int) ∧ ∃ hq : q < F.length, F[q].kind = ks[i]) :
    Calls Try.prog 18 #[.slice o F.length cap, .agg #[.int .i64 24, .int .i64 num, .int .i64 mat, .string text, v1, v2, .slice od kids.length cd]] w fun e w' => e = .returned (.bool (Fn.kidsOk 24 ks)) ∧ Below w.heap.size w w' := by
  obtain ⟨A, hA⟩ : ∃ A, Fn.kidsFrom 24 0 ks = A := ⟨_, rfl⟩
  have hans : Hid (Fn.kidsOk 24 ks = (A && Fn.least 24 kids.length)) := by
    unfold Fn.kidsOk
    rw [hA, hks]
    exact rfl
  rw [hans.out]
  have hbA : Below w.heap.size w (w.alloc (.cells #[.int .i64 24, .int .i64 num, .int .i64 mat, .string text, v1, v2, .slice od kids.length cd] 34)) := (Below.refl _ _).alloc (Nat.le_refl _) _
  have hF := mkH (hF.below hbA)
  have hk := mkH (hk.below hbA)
  have hin := mkH hin
  have hks := mkH hks
  have HA := mkH hA
  have hB : (w.alloc (.cells #[.int .i64 24, .int .i64 num, .int .i64 mat, .string text, v1, v2, .slice od kids.length cd] 34)).heap[w.heap.size]? = some (.cells #[.int .i64 24, .int .i64 num, .int .i64 mat, .string text, v1, v2, .slice od kids.length cd] 34 (0, 0)) := hp_allocN _ _
  have q0 : (w.alloc (.cells #[.int .i64 24, .int .i64 num, .int .i64 mat, .string text, v1, v2, .slice od kids.length cd] 34)).cell? ⟨w.heap.size, 0, none⟩ = some (.int .i64 24) := by simp
  have q6 : (w.alloc (.cells #[.int .i64 24, .int .i64 num, .int .i64 mat, .string text, v1, v2, .slice od kids.length cd] 34)).cell? ⟨w.heap.size, 6, none⟩ = some (.slice od kids.length cd) := by simp
  obtain ⟨W, hW⟩ : ∃ W, W = w.alloc (.cells #[.int .i64 24, .int .i64 num, .int .i64 mat, .string text, v1, v2, .slice od kids.length cd] 34) := ⟨_, rfl⟩
  have HW := mkH hW
  rw [← hW] at hF hk q0 q6 hbA
  clear hans hA hW hB
  have hbA := mkH hbA
  go_enter Try.func18, Try.ntmps18
  go_wp2
  rw [← HW.out]
  clear HW
  generalize hG : w.heap.size = G at *
  go_loopw [5] (fun iv wr => ∃ i : Nat, i ≤ kids.length ∧ iv = .int .i64 i ∧ Hid (Fn.kidsFrom 24 i (ks.drop i) = A) ∧ wr = W) (fun iv _ => kids.length - (Lib.intOf iv).toNat)
  case atStart => exact ⟨0, Nat.zero_le _, rfl, HA, rfl⟩
  case round =>
    obtain ⟨i, hi, rfl, hfr, hWr⟩ := hrel
    have hWr' : wr = W := hWr
    clear hWr
    subst hWr'
    by_cases hlt : i < kids.length
    · have hls : i < ks.length := by rw [hks.out]; exact hlt
      obtain ⟨q, hq, hqF, hqk⟩ := hin.out i hlt hls
      obtain ⟨a, rfl, ha, ck⟩ := hk.out i hlt
      obtain ⟨b, vn, vk, vd, rfl, hb, hN, -⟩ := hF.out q hqF
      rw [hq] at ck
      have cn := hN.c0
      rw [hqk] at cn
      have hst := mkH (hfr.out.symm.trans (Fn.from_step 24 ks i hls))
      clear hN hq hqk hfr hF hk hin hks
      generalize ks[i] = x at *
      cases hc : Fn.isTest x
      · have hL := specIsTest x wr
        rw [hc] at hL
        have hf : Hid (A = false) := by rw [hst.out, show Fn.kidOk 24 i x = false from hc]; exact Bool.false_and _
        clear hst hc
        go_wp2_with fail
        refine hL.mono ?_
        rintro e w2 ⟨rfl, rfl⟩
        go_wp2
        go_ret
        rw [hf.out]
        exact ⟨rfl, by rw [hG]; exact hbA.out⟩
      · have hL := specIsTest x wr
        rw [hc] at hL
        have hf : Hid (Fn.kidsFrom 24 (i + 1) (ks.drop (i + 1)) = A) := by rw [hst.out, show Fn.kidOk 24 i x = true from hc]; exact (Bool.true_and _).symm
        clear hst hc
        go_wp2_with fail
        refine hL.mono ?_
        rintro e w2 ⟨rfl, rfl⟩
        go_wp2
        go_roundw
        case rel => exact ⟨i + 1, by omega, by go_num, hf, trivial⟩
        case measure => simp [Lib.intOf]; omega
    · have hf : Hid (A = true) := by
        have := hfr.out
        rw [List.drop_eq_nil_of_le (by rw [hks.out]; omega)] at this
        exact this.symm
      clear hfr hF hk hin hks
      go_wp2
      go_ret
      rw [hf.out]
      exact ⟨rfl, by rw [hG]; exact hbA.out⟩
set_option maxHeartbeats 2000000 in
set_option maxRecDepth 20000 in
theorem specKids22 (num mat : Int) (text : ByteArray) (v1 v2 : Value) (o od : Option Addr) (F : List Nd) (kids ks : List Int) (cap cd : Nat) (w : World) (hF : Nds w.heap.size w o F) (hk : Ints w.heap.size w od kids) (_ : kids.length ≤ 1048576) (_ : F.length ≤ 1048576) (hks : ks.length = kids.length) (hin : ∀ i (h : i < kids.length) (h' : i < ks.length), ∃ q : Nat, kids[i] = (q : Int) ∧ ∃ hq : q < F.length, F[q].kind = ks[i]) :
    Calls Try.prog 18 #[.slice o F.length cap, .agg #[.int .i64 22, .int .i64 num, .int .i64 mat, .string text, v1, v2, .slice od kids.length cd]] w fun e w' => e = .returned (.bool (Fn.kidsOk 22 ks)) ∧ Below w.heap.size w w' := by
  obtain ⟨A, hA⟩ : ∃ A, Fn.kidsFrom 22 0 ks = A := ⟨_, rfl⟩
  have hans : Hid (Fn.kidsOk 22 ks = (A && Fn.least 22 kids.length)) := by
    unfold Fn.kidsOk
    rw [hA, hks]
    exact rfl
  rw [hans.out]
  have hbA : Below w.heap.size w (w.alloc (.cells #[.int .i64 22, .int .i64 num, .int .i64 mat, .string text, v1, v2, .slice od kids.length cd] 34)) := (Below.refl _ _).alloc (Nat.le_refl _) _
  have hF := mkH (hF.below hbA)
  have hk := mkH (hk.below hbA)
  have hin := mkH hin
  have hks := mkH hks
  have HA := mkH hA
  have hB : (w.alloc (.cells #[.int .i64 22, .int .i64 num, .int .i64 mat, .string text, v1, v2, .slice od kids.length cd] 34)).heap[w.heap.size]? = some (.cells #[.int .i64 22, .int .i64 num, .int .i64 mat, .string text, v1, v2, .slice od kids.length cd] 34 (0, 0)) := hp_allocN _ _
  have q0 : (w.alloc (.cells #[.int .i64 22, .int .i64 num, .int .i64 mat, .string text, v1, v2, .slice od kids.length cd] 34)).cell? ⟨w.heap.size, 0, none⟩ = some (.int .i64 22) := by simp
  have q6 : (w.alloc (.cells #[.int .i64 22, .int .i64 num, .int .i64 mat, .string text, v1, v2, .slice od kids.length cd] 34)).cell? ⟨w.heap.size, 6, none⟩ = some (.slice od kids.length cd) := by simp
  obtain ⟨W, hW⟩ : ∃ W, W = w.alloc (.cells #[.int .i64 22, .int .i64 num, .int .i64 mat, .string text, v1, v2, .slice od kids.length cd] 34) := ⟨_, rfl⟩
  have HW := mkH hW
  rw [← hW] at hF hk q0 q6 hbA
  clear hans hA hW hB
  have hbA := mkH hbA
  go_enter Try.func18, Try.ntmps18
  go_wp2
  rw [← HW.out]
  clear HW
  generalize hG : w.heap.size = G at *
  go_loopw [5] (fun iv wr => ∃ i : Nat, i ≤ kids.length ∧ iv = .int .i64 i ∧ Hid (Fn.kidsFrom 22 i (ks.drop i) = A) ∧ wr = W) (fun iv _ => kids.length - (Lib.intOf iv).toNat)
  case atStart => exact ⟨0, Nat.zero_le _, rfl, HA, rfl⟩
  case round =>
    obtain ⟨i, hi, rfl, hfr, hWr⟩ := hrel
    have hWr' : wr = W := hWr
    clear hWr
    subst hWr'
    by_cases hlt : i < kids.length
    · have hls : i < ks.length := by rw [hks.out]; exact hlt
      obtain ⟨q, hq, hqF, hqk⟩ := hin.out i hlt hls
      obtain ⟨a, rfl, ha, ck⟩ := hk.out i hlt
      obtain ⟨b, vn, vk, vd, rfl, hb, hN, -⟩ := hF.out q hqF
      rw [hq] at ck
      have cn := hN.c0
      rw [hqk] at cn
      have hst := mkH (hfr.out.symm.trans (Fn.from_step 22 ks i hls))
      clear hN hq hqk hfr hF hk hin hks
      generalize ks[i] = x at *
      by_cases hz : i = 0
      · have i0 : ((i : Int) == 0) = true := by simp; omega
        clear hz
        cases hc : Fn.isTest x
        · have hL := specIsTest x wr
          rw [hc] at hL
          have hf : Hid (A = false) := by rw [hst.out, show Fn.kidOk 22 i x = false from by unfold Fn.kidOk; simp [i0, hc]]; exact Bool.false_and _
          clear hst hc
          go_wp2_with fail
          refine hL.mono ?_
          rintro e w2 ⟨rfl, rfl⟩
          go_wp2
          go_ret
          rw [hf.out]
          exact ⟨rfl, by rw [hG]; exact hbA.out⟩
        · have hL := specIsTest x wr
          rw [hc] at hL
          have hf : Hid (Fn.kidsFrom 22 (i + 1) (ks.drop (i + 1)) = A) := by rw [hst.out, show Fn.kidOk 22 i x = true from by unfold Fn.kidOk; simp [i0, hc]]; exact (Bool.true_and _).symm
          clear hst hc
          go_wp2_with fail
          refine hL.mono ?_
          rintro e w2 ⟨rfl, rfl⟩
          go_wp2
          go_roundw
          case rel => exact ⟨i + 1, by omega, by go_num, hf, trivial⟩
          case measure => simp [Lib.intOf]; omega
      · have i0 : ((i : Int) == 0) = false := by simp; omega
        have hf : Hid (A = false) := by rw [hst.out, show Fn.kidOk 22 i x = false from by unfold Fn.kidOk; simp [i0]]; exact Bool.false_and _
        clear hst
        go_wp2
        go_ret
        rw [hf.out]
        exact ⟨rfl, by rw [hG]; exact hbA.out⟩
    · have hf : Hid (A = true) := by
        have := hfr.out
        rw [List.drop_eq_nil_of_le (by rw [hks.out]; omega)] at this
        exact this.symm
      clear hfr hF hk hin hks
      go_wp2
      go_ret
      rw [hf.out]
      exact ⟨rfl, by rw [hG]; exact hbA.out⟩
set_option maxHeartbeats 2000000 in
set_option maxRecDepth 20000 in
theorem specKids3 (num mat : Int) (text : ByteArray) (v1 v2 : Value) (o od : Option Addr) (F : List Nd) (kids ks : List Int) (cap cd : Nat) (w : World) (hF : Nds w.heap.size w o F) (hk : Ints w.heap.size w od kids) (_ : kids.length ≤ 1048576) (_ : F.length ≤ 1048576) (hks : ks.length = kids.length) (hin : ∀ i (h : i < kids.length) (h' : i < ks.length), ∃ q : Nat, kids[i] = (q : Int) ∧ ∃ hq : q < F.length, F[q].kind = ks[i]) :
    Calls Try.prog 18 #[.slice o F.length cap, .agg #[.int .i64 3, .int .i64 num, .int .i64 mat, .string text, v1, v2, .slice od kids.length cd]] w fun e w' => e = .returned (.bool (Fn.kidsOk 3 ks)) ∧ Below w.heap.size w w' := by
  obtain ⟨A, hA⟩ : ∃ A, Fn.kidsFrom 3 0 ks = A := ⟨_, rfl⟩
  have hans : Hid (Fn.kidsOk 3 ks = (A && Fn.least 3 kids.length)) := by
    unfold Fn.kidsOk
    rw [hA, hks]
    exact rfl
  rw [hans.out]
  have hbA : Below w.heap.size w (w.alloc (.cells #[.int .i64 3, .int .i64 num, .int .i64 mat, .string text, v1, v2, .slice od kids.length cd] 34)) := (Below.refl _ _).alloc (Nat.le_refl _) _
  have hF := mkH (hF.below hbA)
  have hk := mkH (hk.below hbA)
  have hin := mkH hin
  have hks := mkH hks
  have HA := mkH hA
  have hB : (w.alloc (.cells #[.int .i64 3, .int .i64 num, .int .i64 mat, .string text, v1, v2, .slice od kids.length cd] 34)).heap[w.heap.size]? = some (.cells #[.int .i64 3, .int .i64 num, .int .i64 mat, .string text, v1, v2, .slice od kids.length cd] 34 (0, 0)) := hp_allocN _ _
  have q0 : (w.alloc (.cells #[.int .i64 3, .int .i64 num, .int .i64 mat, .string text, v1, v2, .slice od kids.length cd] 34)).cell? ⟨w.heap.size, 0, none⟩ = some (.int .i64 3) := by simp
  have q6 : (w.alloc (.cells #[.int .i64 3, .int .i64 num, .int .i64 mat, .string text, v1, v2, .slice od kids.length cd] 34)).cell? ⟨w.heap.size, 6, none⟩ = some (.slice od kids.length cd) := by simp
  obtain ⟨W, hW⟩ : ∃ W, W = w.alloc (.cells #[.int .i64 3, .int .i64 num, .int .i64 mat, .string text, v1, v2, .slice od kids.length cd] 34) := ⟨_, rfl⟩
  have HW := mkH hW
  rw [← hW] at hF hk q0 q6 hbA
  clear hans hA hW hB
  have hbA := mkH hbA
  go_enter Try.func18, Try.ntmps18
  go_wp2
  rw [← HW.out]
  clear HW
  generalize hG : w.heap.size = G at *
  go_loopw [5] (fun iv wr => ∃ i : Nat, i ≤ kids.length ∧ iv = .int .i64 i ∧ Hid (Fn.kidsFrom 3 i (ks.drop i) = A) ∧ wr = W) (fun iv _ => kids.length - (Lib.intOf iv).toNat)
  case atStart => exact ⟨0, Nat.zero_le _, rfl, HA, rfl⟩
  case round =>
    obtain ⟨i, hi, rfl, hfr, hWr⟩ := hrel
    have hWr' : wr = W := hWr
    clear hWr
    subst hWr'
    by_cases hlt : i < kids.length
    · have hls : i < ks.length := by rw [hks.out]; exact hlt
      obtain ⟨q, hq, hqF, hqk⟩ := hin.out i hlt hls
      obtain ⟨a, rfl, ha, ck⟩ := hk.out i hlt
      obtain ⟨b, vn, vk, vd, rfl, hb, hN, -⟩ := hF.out q hqF
      rw [hq] at ck
      have cn := hN.c0
      rw [hqk] at cn
      have hst := mkH (hfr.out.symm.trans (Fn.from_step 3 ks i hls))
      clear hN hq hqk hfr hF hk hin hks
      generalize ks[i] = x at *
      by_cases hz : i = 0
      · have i0 : ((i : Int) == 0) = true := by simp; omega
        clear hz
        by_cases hx1 : x = 1
        · have x1 : (x == 1) = true := by simpa using hx1
          clear hx1
          have hf : Hid (Fn.kidsFrom 3 (i + 1) (ks.drop (i + 1)) = A) := by rw [hst.out, show Fn.kidOk 3 i x = true from by unfold Fn.kidOk; simp [i0, x1]]; exact (Bool.true_and _).symm
          clear hst
          go_wp2
          go_roundw
          case rel => exact ⟨i + 1, by omega, by go_num, hf, trivial⟩
          case measure => simp [Lib.intOf]; omega
        · have x1 : (x == 1) = false := by simpa using hx1
          clear hx1
          have hf : Hid (A = false) := by rw [hst.out, show Fn.kidOk 3 i x = false from by unfold Fn.kidOk; simp [x1]]; exact Bool.false_and _
          clear hst
          go_wp2
          go_ret
          rw [hf.out]
          exact ⟨rfl, by rw [hG]; exact hbA.out⟩
      · have i0 : ((i : Int) == 0) = false := by simp; omega
        have hf : Hid (A = false) := by rw [hst.out, show Fn.kidOk 3 i x = false from by unfold Fn.kidOk; simp [i0]]; exact Bool.false_and _
        clear hst
        go_wp2
        go_ret
        rw [hf.out]
        exact ⟨rfl, by rw [hG]; exact hbA.out⟩
    · have hf : Hid (A = true) := by
        have := hfr.out
        rw [List.drop_eq_nil_of_le (by rw [hks.out]; omega)] at this
        exact this.symm
      clear hfr hF hk hin hks
      go_wp2
      go_ret
      rw [hf.out]
      exact ⟨rfl, by rw [hG]; exact hbA.out⟩
set_option maxHeartbeats 2000000 in
set_option maxRecDepth 20000 in
theorem specKids2 (num mat : Int) (text : ByteArray) (v1 v2 : Value) (o od : Option Addr) (F : List Nd) (kids ks : List Int) (cap cd : Nat) (w : World) (hF : Nds w.heap.size w o F) (hk : Ints w.heap.size w od kids) (_ : kids.length ≤ 1048576) (_ : F.length ≤ 1048576) (hks : ks.length = kids.length) (hin : ∀ i (h : i < kids.length) (h' : i < ks.length), ∃ q : Nat, kids[i] = (q : Int) ∧ ∃ hq : q < F.length, F[q].kind = ks[i]) :
    Calls Try.prog 18 #[.slice o F.length cap, .agg #[.int .i64 2, .int .i64 num, .int .i64 mat, .string text, v1, v2, .slice od kids.length cd]] w fun e w' => e = .returned (.bool (Fn.kidsOk 2 ks)) ∧ Below w.heap.size w w' := by
  obtain ⟨A, hA⟩ : ∃ A, Fn.kidsFrom 2 0 ks = A := ⟨_, rfl⟩
  have hans : Hid (Fn.kidsOk 2 ks = (A && Fn.least 2 kids.length)) := by
    unfold Fn.kidsOk
    rw [hA, hks]
    exact rfl
  rw [hans.out]
  have hbA : Below w.heap.size w (w.alloc (.cells #[.int .i64 2, .int .i64 num, .int .i64 mat, .string text, v1, v2, .slice od kids.length cd] 34)) := (Below.refl _ _).alloc (Nat.le_refl _) _
  have hF := mkH (hF.below hbA)
  have hk := mkH (hk.below hbA)
  have hin := mkH hin
  have hks := mkH hks
  have HA := mkH hA
  have hB : (w.alloc (.cells #[.int .i64 2, .int .i64 num, .int .i64 mat, .string text, v1, v2, .slice od kids.length cd] 34)).heap[w.heap.size]? = some (.cells #[.int .i64 2, .int .i64 num, .int .i64 mat, .string text, v1, v2, .slice od kids.length cd] 34 (0, 0)) := hp_allocN _ _
  have q0 : (w.alloc (.cells #[.int .i64 2, .int .i64 num, .int .i64 mat, .string text, v1, v2, .slice od kids.length cd] 34)).cell? ⟨w.heap.size, 0, none⟩ = some (.int .i64 2) := by simp
  have q6 : (w.alloc (.cells #[.int .i64 2, .int .i64 num, .int .i64 mat, .string text, v1, v2, .slice od kids.length cd] 34)).cell? ⟨w.heap.size, 6, none⟩ = some (.slice od kids.length cd) := by simp
  obtain ⟨W, hW⟩ : ∃ W, W = w.alloc (.cells #[.int .i64 2, .int .i64 num, .int .i64 mat, .string text, v1, v2, .slice od kids.length cd] 34) := ⟨_, rfl⟩
  have HW := mkH hW
  rw [← hW] at hF hk q0 q6 hbA
  clear hans hA hW hB
  have hbA := mkH hbA
  go_enter Try.func18, Try.ntmps18
  go_wp2
  rw [← HW.out]
  clear HW
  generalize hG : w.heap.size = G at *
  go_loopw [5] (fun iv wr => ∃ i : Nat, i ≤ kids.length ∧ iv = .int .i64 i ∧ Hid (Fn.kidsFrom 2 i (ks.drop i) = A) ∧ wr = W) (fun iv _ => kids.length - (Lib.intOf iv).toNat)
  case atStart => exact ⟨0, Nat.zero_le _, rfl, HA, rfl⟩
  case round =>
    obtain ⟨i, hi, rfl, hfr, hWr⟩ := hrel
    have hWr' : wr = W := hWr
    clear hWr
    subst hWr'
    by_cases hlt : i < kids.length
    · have hls : i < ks.length := by rw [hks.out]; exact hlt
      obtain ⟨q, hq, hqF, hqk⟩ := hin.out i hlt hls
      obtain ⟨a, rfl, ha, ck⟩ := hk.out i hlt
      obtain ⟨b, vn, vk, vd, rfl, hb, hN, -⟩ := hF.out q hqF
      rw [hq] at ck
      have cn := hN.c0
      rw [hqk] at cn
      have hst := mkH (hfr.out.symm.trans (Fn.from_step 2 ks i hls))
      clear hN hq hqk hfr hF hk hin hks
      generalize ks[i] = x at *
      by_cases hz : i = 0
      · have i0 : ((i : Int) == 0) = true := by simp; omega
        have i1 : ((i : Int) == 1) = false := by simp; omega
        have i2 : ((i : Int) == 2) = false := by simp; omega
        clear hz
        cases hc : Fn.isTest x
        · have hL := specIsTest x wr
          rw [hc] at hL
          have hf : Hid (A = false) := by rw [hst.out, show Fn.kidOk 2 i x = false from by unfold Fn.kidOk; simp [i0, i1, i2, hc]]; exact Bool.false_and _
          clear hst hc
          go_wp2_with fail
          refine hL.mono ?_
          rintro e w2 ⟨rfl, rfl⟩
          go_wp2
          go_ret
          rw [hf.out]
          exact ⟨rfl, by rw [hG]; exact hbA.out⟩
        · have hL := specIsTest x wr
          rw [hc] at hL
          have hf : Hid (Fn.kidsFrom 2 (i + 1) (ks.drop (i + 1)) = A) := by rw [hst.out, show Fn.kidOk 2 i x = true from by unfold Fn.kidOk; simp [i0, i1, i2, hc]]; exact (Bool.true_and _).symm
          clear hst hc
          go_wp2_with fail
          refine hL.mono ?_
          rintro e w2 ⟨rfl, rfl⟩
          go_wp2
          go_roundw
          case rel => exact ⟨i + 1, by omega, by go_num, hf, trivial⟩
          case measure => simp [Lib.intOf]; omega
      · have i0 : ((i : Int) == 0) = false := by simp; omega
        by_cases hz1 : i = 1
        · have i1 : ((i : Int) == 1) = true := by simp; omega
          have i2 : ((i : Int) == 2) = false := by simp; omega
          clear hz1 hz
          by_cases hx1 : x = 1
          · have x1 : (x == 1) = true := by simpa using hx1
            clear hx1
            have hf : Hid (Fn.kidsFrom 2 (i + 1) (ks.drop (i + 1)) = A) := by rw [hst.out, show Fn.kidOk 2 i x = true from by unfold Fn.kidOk; simp [i0, i1, i2, x1]]; exact (Bool.true_and _).symm
            clear hst
            go_wp2
            go_roundw
            case rel => exact ⟨i + 1, by omega, by go_num, hf, trivial⟩
            case measure => simp [Lib.intOf]; omega
          · have x1 : (x == 1) = false := by simpa using hx1
            clear hx1
            have hf : Hid (A = false) := by rw [hst.out, show Fn.kidOk 2 i x = false from by unfold Fn.kidOk; simp [i0, i1, i2, x1]]; exact Bool.false_and _
            clear hst
            go_wp2
            go_ret
            rw [hf.out]
            exact ⟨rfl, by rw [hG]; exact hbA.out⟩
        · have i1 : ((i : Int) == 1) = false := by simp; omega
          by_cases hz2 : i = 2
          · have i2 : ((i : Int) == 2) = true := by simp; omega
            clear hz2 hz1 hz
            by_cases hx1 : x = 1
            · have x1 : (x == 1) = true := by simpa using hx1
              clear hx1
              have hf : Hid (Fn.kidsFrom 2 (i + 1) (ks.drop (i + 1)) = A) := by rw [hst.out, show Fn.kidOk 2 i x = true from by unfold Fn.kidOk; simp [i0, i1, i2, x1]]; exact (Bool.true_and _).symm
              clear hst
              go_wp2
              go_roundw
              case rel => exact ⟨i + 1, by omega, by go_num, hf, trivial⟩
              case measure => simp [Lib.intOf]; omega
            · have x1 : (x == 1) = false := by simpa using hx1
              clear hx1
              by_cases hx2 : x = 2
              · have x2 : (x == 2) = true := by simpa using hx2
                clear hx2
                have hf : Hid (Fn.kidsFrom 2 (i + 1) (ks.drop (i + 1)) = A) := by rw [hst.out, show Fn.kidOk 2 i x = true from by unfold Fn.kidOk; simp [i0, i1, i2, x1, x2]]; exact (Bool.true_and _).symm
                clear hst
                go_wp2
                go_roundw
                case rel => exact ⟨i + 1, by omega, by go_num, hf, trivial⟩
                case measure => simp [Lib.intOf]; omega
              · have x2 : (x == 2) = false := by simpa using hx2
                clear hx2
                have hf : Hid (A = false) := by rw [hst.out, show Fn.kidOk 2 i x = false from by unfold Fn.kidOk; simp [i0, i1, i2, x1, x2]]; exact Bool.false_and _
                clear hst
                go_wp2
                go_ret
                rw [hf.out]
                exact ⟨rfl, by rw [hG]; exact hbA.out⟩
          · have i2 : ((i : Int) == 2) = false := by simp; omega
            have hf : Hid (A = false) := by rw [hst.out, show Fn.kidOk 2 i x = false from by unfold Fn.kidOk; simp [i0, i1, i2]]; exact Bool.false_and _
            clear hst
            go_wp2
            go_ret
            rw [hf.out]
            exact ⟨rfl, by rw [hG]; exact hbA.out⟩
    · have hf : Hid (A = true) := by
        have := hfr.out
        rw [List.drop_eq_nil_of_le (by rw [hks.out]; omega)] at this
        exact this.symm
      clear hfr hF hk hin hks
      go_wp2
      go_ret
      rw [hf.out]
      exact ⟨rfl, by rw [hG]; exact hbA.out⟩
set_option maxHeartbeats 2000000 in
set_option maxRecDepth 20000 in
theorem specKidsNo (kd : Int) (num mat : Int) (text : ByteArray) (v1 v2 : Value) (o od : Option Addr) (F : List Nd) (kids ks : List Int) (cap cd : Nat) (w : World) (hF : Nds w.heap.size w o F) (hk : Ints w.heap.size w od kids) (_ : kids.length ≤ 1048576) (_ : F.length ≤ 1048576) (hks : ks.length = kids.length) (hin : ∀ i (h : i < kids.length) (h' : i < ks.length), ∃ q : Nat, kids[i] = (q : Int) ∧ ∃ hq : q < F.length, F[q].kind = ks[i]) (y1 : (kd == 1) = false) (y2 : (kd == 2) = false) (y3 : (kd == 3) = false) (y22 : (kd == 22) = false) (y23 : (kd == 23) = false) (y24 : (kd == 24) = false) :
    Calls Try.prog 18 #[.slice o F.length cap, .agg #[.int .i64 kd, .int .i64 num, .int .i64 mat, .string text, v1, v2, .slice od kids.length cd]] w fun e w' => e = .returned (.bool (Fn.kidsOk kd ks)) ∧ Below w.heap.size w w' := by
  obtain ⟨A, hA⟩ : ∃ A, Fn.kidsFrom kd 0 ks = A := ⟨_, rfl⟩
  have hans : Hid (Fn.kidsOk kd ks = (A && Fn.least kd kids.length)) := by
    unfold Fn.kidsOk
    rw [hA, hks]
    exact rfl
  rw [hans.out]
  have hbA : Below w.heap.size w (w.alloc (.cells #[.int .i64 kd, .int .i64 num, .int .i64 mat, .string text, v1, v2, .slice od kids.length cd] 34)) := (Below.refl _ _).alloc (Nat.le_refl _) _
  have hF := mkH (hF.below hbA)
  have hk := mkH (hk.below hbA)
  have hin := mkH hin
  have hks := mkH hks
  have HA := mkH hA
  have hB : (w.alloc (.cells #[.int .i64 kd, .int .i64 num, .int .i64 mat, .string text, v1, v2, .slice od kids.length cd] 34)).heap[w.heap.size]? = some (.cells #[.int .i64 kd, .int .i64 num, .int .i64 mat, .string text, v1, v2, .slice od kids.length cd] 34 (0, 0)) := hp_allocN _ _
  have q0 : (w.alloc (.cells #[.int .i64 kd, .int .i64 num, .int .i64 mat, .string text, v1, v2, .slice od kids.length cd] 34)).cell? ⟨w.heap.size, 0, none⟩ = some (.int .i64 kd) := by simp
  have q6 : (w.alloc (.cells #[.int .i64 kd, .int .i64 num, .int .i64 mat, .string text, v1, v2, .slice od kids.length cd] 34)).cell? ⟨w.heap.size, 6, none⟩ = some (.slice od kids.length cd) := by simp
  obtain ⟨W, hW⟩ : ∃ W, W = w.alloc (.cells #[.int .i64 kd, .int .i64 num, .int .i64 mat, .string text, v1, v2, .slice od kids.length cd] 34) := ⟨_, rfl⟩
  have HW := mkH hW
  rw [← hW] at hF hk q0 q6 hbA
  clear hans hA hW hB
  have hbA := mkH hbA
  go_enter Try.func18, Try.ntmps18
  go_wp2
  rw [← HW.out]
  clear HW
  generalize hG : w.heap.size = G at *
  go_loopw [5] (fun iv wr => ∃ i : Nat, i ≤ kids.length ∧ iv = .int .i64 i ∧ Hid (Fn.kidsFrom kd i (ks.drop i) = A) ∧ wr = W) (fun iv _ => kids.length - (Lib.intOf iv).toNat)
  case atStart => exact ⟨0, Nat.zero_le _, rfl, HA, rfl⟩
  case round =>
    obtain ⟨i, hi, rfl, hfr, hWr⟩ := hrel
    have hWr' : wr = W := hWr
    clear hWr
    subst hWr'
    by_cases hlt : i < kids.length
    · have hls : i < ks.length := by rw [hks.out]; exact hlt
      obtain ⟨q, hq, hqF, hqk⟩ := hin.out i hlt hls
      obtain ⟨a, rfl, ha, ck⟩ := hk.out i hlt
      obtain ⟨b, vn, vk, vd, rfl, hb, hN, -⟩ := hF.out q hqF
      rw [hq] at ck
      have cn := hN.c0
      rw [hqk] at cn
      have hst := mkH (hfr.out.symm.trans (Fn.from_step kd ks i hls))
      clear hN hq hqk hfr hF hk hin hks
      generalize ks[i] = x at *
      have z1 : ¬ kd = 1 := by simpa using y1
      have z2 : ¬ kd = 2 := by simpa using y2
      have z3 : ¬ kd = 3 := by simpa using y3
      have z22 : ¬ kd = 22 := by simpa using y22
      have z23 : ¬ kd = 23 := by simpa using y23
      have z24 : ¬ kd = 24 := by simpa using y24
      have hf : Hid (A = false) := by rw [hst.out, show Fn.kidOk kd i x = false from by unfold Fn.kidOk; simp [z1, z2, z3, z22, z23, z24]]; exact Bool.false_and _
      clear hst
      go_wp2
      go_ret
      rw [hf.out]
      exact ⟨rfl, by rw [hG]; exact hbA.out⟩
    · have hf : Hid (A = true) := by
        have := hfr.out
        rw [List.drop_eq_nil_of_le (by rw [hks.out]; omega)] at this
        exact this.symm
      clear hfr hF hk hin hks
      have z1 : ¬ kd = 1 := by simpa using y1
      have z2 : ¬ kd = 2 := by simpa using y2
      have z3 : ¬ kd = 3 := by simpa using y3
      have z22 : ¬ kd = 22 := by simpa using y22
      have z23 : ¬ kd = 23 := by simpa using y23
      have z24 : ¬ kd = 24 := by simpa using y24
      have hle : Hid (Fn.least kd kids.length = true) := by unfold Fn.least; simp [Hid, z2, z3, z22, z23, z24]
      go_wp2
      go_ret
      rw [hf.out, hle.out]
      exact ⟨rfl, by rw [hG]; exact hbA.out⟩
/-- The kids of a node. -/
theorem specKids (n : Nd) (vn vk vd : Value) (o : Option Addr) (F : List Nd) (ks : List Int) (cap : Nat) (w : World) (hI : NdIn w.heap.size w n vn vk vd) (hF : Nds w.heap.size w o F) (hf : n.fits 1048576) (hlF : F.length ≤ 1048576) (hks : ks.length = n.kids.length) (hin : ∀ i (h : i < n.kids.length) (h' : i < ks.length), ∃ q : Nat, n.kids[i] = (q : Int) ∧ ∃ hq : q < F.length, F[q].kind = ks[i]) :
    Calls Try.prog 18 #[.slice o F.length cap, ndV n vn vk vd] w fun e w' => e = .returned (.bool (Fn.kidsOk n.kind ks)) ∧ Below w.heap.size w w' := by
  obtain ⟨-, -, ⟨a3, c3, rfl, t3⟩⟩ := hI
  have f6 := hf.2.2.2.2.2
  obtain ⟨kind, num, mat, text, names, keys, kids⟩ := n
  unfold ndV
  simp only at *
  by_cases x1 : kind = 1
  · subst x1
    exact specKids1 num mat text vn vk o a3 F kids ks cap c3 w hF t3 f6 hlF hks hin
  by_cases x2 : kind = 2
  · subst x2
    exact specKids2 num mat text vn vk o a3 F kids ks cap c3 w hF t3 f6 hlF hks hin
  by_cases x3 : kind = 3
  · subst x3
    exact specKids3 num mat text vn vk o a3 F kids ks cap c3 w hF t3 f6 hlF hks hin
  by_cases x22 : kind = 22
  · subst x22
    exact specKids22 num mat text vn vk o a3 F kids ks cap c3 w hF t3 f6 hlF hks hin
  by_cases x23 : kind = 23
  · subst x23
    exact specKids23 num mat text vn vk o a3 F kids ks cap c3 w hF t3 f6 hlF hks hin
  by_cases x24 : kind = 24
  · subst x24
    exact specKids24 num mat text vn vk o a3 F kids ks cap c3 w hF t3 f6 hlF hks hin
  exact specKidsNo kind num mat text vn vk o a3 F kids ks cap c3 w hF t3 f6 hlF hks hin (by simpa using x1) (by simpa using x2) (by simpa using x3) (by simpa using x22) (by simpa using x23) (by simpa using x24)
end Go.Proofs.Ytmpakfpmcohcgaa
