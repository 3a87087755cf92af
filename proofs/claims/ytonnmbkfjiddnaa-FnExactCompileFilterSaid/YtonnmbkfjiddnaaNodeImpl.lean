
/- The program's tests of nodes: names, texts, kinds. -/
import Derived.Test.YtonnmbkfjiddnaaCompSpec3
namespace Go.Proofs.Ytonnmbkfjiddnaa
open Go.RowKit Go.Lib Go.Maps
structure KindT (f : FuncId) (K : ByteArray → Bool) : Prop where
  enters : ∀ (args : Array Value) (w : World), (callFunc f args).run Try.prog w = .ok (.enter f args) w
  calls : ∀ (t : ByteArray) (w : World), t.size ≤ 1048576 → Calls Try.prog f #[.string t] w fun e w' => e = .returned (.bool (K t)) ∧ w = w'
theorem any_dropT (K : ByteArray → Bool) (F : List ByteArray) (k : Nat) (h : k < F.length) : (F.drop k).any K = (K F[k] || (F.drop (k + 1)).any K) := by
  rw [List.drop_eq_getElem_cons h, List.any_cons]
set_option maxHeartbeats 1000000 in
theorem implIndexT {f : FuncId} {K : ByteArray → Bool} (hK : KindT f K) (o : Option Addr) (F : List ByteArray) (cap : Nat) (w : World) (hF : Tx w.heap.size w o F) (hlen : F.length ≤ 1048576) (hsz : ∀ t ∈ F, t.size ≤ 1048576) :
    Calls Try.prog 77 #[.slice o F.length cap, .func (.func f) #[] #[]] w fun e w' => ∃ i : Int, e = .returned (.int .i64 i) ∧ decide (0 ≤ i) = F.any K ∧ w = w' := by
  have hE := hK.enters
  have HF := mkH hF
  have Hsz := mkH hsz
  clear hF hsz
  obtain ⟨R, hR⟩ : ∃ R, F.any K = R := ⟨_, rfl⟩
  have HR : Hid ((F.drop 0).any K = R) := hR
  rw [hR]
  clear hR
  go_enter Try.func77, Try.ntmps77
  go_wp2
  go_loopw [5, 8] (fun _ i wr => ∃ k : Nat, k ≤ F.length ∧ i = .int .i64 k ∧ Hid ((F.drop k).any K = R) ∧ wr = w) (fun _ i _ => F.length - (Lib.intOf i).toNat)
  case atStart => exact ⟨0, Nat.zero_le _, rfl, HR, rfl⟩
  case round =>
    clear HR
    obtain ⟨k, hk, rfl, hp, rfl⟩ := hrel
    by_cases hlt : k < F.length
    · obtain ⟨a, rfl, ha, hc0⟩ := HF.out k hlt
      have hst := any_dropT K F k hlt
      rw [hp.out] at hst
      have hN := mkH (fun w => hK.calls F[k] w (Hsz.out _ (List.getElem_mem hlt)))
      have Hst := mkH hst
      clear hst hp
      generalize K F[k] = nb at *
      generalize F[k] = x at *
      cases nb
      · have HN : Hid ((F.drop (k + 1)).any K = R) := by show _ = _; rw [Hst.out, Bool.false_or]
        clear Hst
        go_wp2_with fail
        refine (hN.out _).mono ?_
        rintro e w2 ⟨rfl, rfl⟩
        go_wp2
        go_roundw
        case rel => exact ⟨k + 1, by omega, by go_num, HN, trivial⟩
        case measure => simp [Lib.intOf]; omega
      · have hR : R = true := by rw [Hst.out, Bool.true_or]
        subst hR
        clear Hst
        go_wp2_with fail
        refine (hN.out _).mono ?_
        rintro e w2 ⟨rfl, rfl⟩
        go_wp2
        go_ret
        exact ⟨k, rfl, by simp, rfl⟩
    · have hR : R = false := by rw [← hp.out, List.drop_eq_nil_of_le (by omega)]; rfl
      subst hR
      clear hp
      go_wp2
      go_ret
      exact ⟨-1, rfl, rfl, rfl⟩
set_option maxHeartbeats 1000000 in
theorem implContainsT {f : FuncId} {K : ByteArray → Bool} (hK : KindT f K) (o : Option Addr) (F : List ByteArray) (cap : Nat) (w : World) (hF : Tx w.heap.size w o F) (hlen : F.length ≤ 1048576) (hsz : ∀ t ∈ F, t.size ≤ 1048576) :
    Calls Try.prog 66 #[.slice o F.length cap, .func (.func f) #[] #[]] w fun e w' => e = .returned (.bool (F.any K)) ∧ w = w' := by
  have hI := implIndexT hK o F cap w hF hlen hsz
  clear hF hsz
  go_enter Try.func66, Try.ntmps66
  go_wp2_with fail
  refine hI.mono ?_
  rintro e w2 ⟨i, rfl, hi, rfl⟩
  go_wp2
  go_ret
  exact ⟨by rw [← hi]; rfl, rfl⟩
structure KindI (f : FuncId) (K : Int → Bool) : Prop where
  enters : ∀ (args : Array Value) (w : World), (callFunc f args).run Try.prog w = .ok (.enter f args) w
  calls : ∀ (t : Int) (w : World), Calls Try.prog f #[.int .i64 t] w fun e w' => e = .returned (.bool (K t)) ∧ w = w'
theorem any_dropI (K : Int → Bool) (F : List Int) (k : Nat) (h : k < F.length) : (F.drop k).any K = (K F[k] || (F.drop (k + 1)).any K) := by
  rw [List.drop_eq_getElem_cons h, List.any_cons]
set_option maxHeartbeats 1000000 in
theorem implIndexI {f : FuncId} {K : Int → Bool} (hK : KindI f K) (o : Option Addr) (F : List Int) (cap : Nat) (w : World) (hF : Ints w.heap.size w o F) (hlen : F.length ≤ 1048576) :
    Calls Try.prog 80 #[.slice o F.length cap, .func (.func f) #[] #[]] w fun e w' => ∃ i : Int, e = .returned (.int .i64 i) ∧ decide (0 ≤ i) = F.any K ∧ w = w' := by
  have hE := hK.enters
  have HF := mkH hF
  clear hF
  obtain ⟨R, hR⟩ : ∃ R, F.any K = R := ⟨_, rfl⟩
  have HR : Hid ((F.drop 0).any K = R) := hR
  rw [hR]
  clear hR
  go_enter Try.func80, Try.ntmps80
  go_wp2
  go_loopw [5, 8] (fun _ i wr => ∃ k : Nat, k ≤ F.length ∧ i = .int .i64 k ∧ Hid ((F.drop k).any K = R) ∧ wr = w) (fun _ i _ => F.length - (Lib.intOf i).toNat)
  case atStart => exact ⟨0, Nat.zero_le _, rfl, HR, rfl⟩
  case round =>
    clear HR
    obtain ⟨k, hk, rfl, hp, rfl⟩ := hrel
    by_cases hlt : k < F.length
    · obtain ⟨a, rfl, ha, hc0⟩ := HF.out k hlt
      have hst := any_dropI K F k hlt
      rw [hp.out] at hst
      have hN := mkH (fun w => hK.calls F[k] w)
      have Hst := mkH hst
      clear hst hp
      generalize K F[k] = nb at *
      generalize F[k] = x at *
      cases nb
      · have HN : Hid ((F.drop (k + 1)).any K = R) := by show _ = _; rw [Hst.out, Bool.false_or]
        clear Hst
        go_wp2_with fail
        refine (hN.out _).mono ?_
        rintro e w2 ⟨rfl, rfl⟩
        go_wp2
        go_roundw
        case rel => exact ⟨k + 1, by omega, by go_num, HN, trivial⟩
        case measure => simp [Lib.intOf]; omega
      · have hR : R = true := by rw [Hst.out, Bool.true_or]
        subst hR
        clear Hst
        go_wp2_with fail
        refine (hN.out _).mono ?_
        rintro e w2 ⟨rfl, rfl⟩
        go_wp2
        go_ret
        exact ⟨k, rfl, by simp, rfl⟩
    · have hR : R = false := by rw [← hp.out, List.drop_eq_nil_of_le (by omega)]; rfl
      subst hR
      clear hp
      go_wp2
      go_ret
      exact ⟨-1, rfl, rfl, rfl⟩
set_option maxHeartbeats 1000000 in
theorem implContainsI {f : FuncId} {K : Int → Bool} (hK : KindI f K) (o : Option Addr) (F : List Int) (cap : Nat) (w : World) (hF : Ints w.heap.size w o F) (hlen : F.length ≤ 1048576) :
    Calls Try.prog 69 #[.slice o F.length cap, .func (.func f) #[] #[]] w fun e w' => e = .returned (.bool (F.any K)) ∧ w = w' := by
  have hI := implIndexI hK o F cap w hF hlen
  clear hF
  go_enter Try.func69, Try.ntmps69
  go_wp2_with fail
  refine hI.mono ?_
  rintro e w2 ⟨i, rfl, hi, rfl⟩
  go_wp2
  go_ret
  exact ⟨by rw [← hi]; rfl, rfl⟩
set_option maxHeartbeats 400000 in
theorem implIsTest (k : Int) (w : World) : Calls Try.prog 57 #[.int .i64 k] w fun e w' => e = .returned (.bool (Fn.isTest k)) ∧ w = w' := by
  unfold Fn.isTest
  by_cases h1 : 20 ≤ k
  · by_cases h2 : k ≤ 31
    · rw [decide_eq_true h1, decide_eq_true h2]
      go_enter Try.func57, Try.ntmps57
      go_wp2
      go_ret
      exact ⟨rfl, rfl⟩
    · rw [decide_eq_true h1, decide_eq_false h2]
      go_enter Try.func57, Try.ntmps57
      go_wp2
      go_ret
      exact ⟨rfl, rfl⟩
  · rw [decide_eq_false h1]
    go_enter Try.func57, Try.ntmps57
    go_wp2
    go_ret
    exact ⟨rfl, rfl⟩
set_option maxHeartbeats 400000 in
theorem implIsCmd (k : Int) (w : World) : Calls Try.prog 81 #[.int .i64 k] w fun e w' => e = .returned (.bool (Fn.isCmd k)) ∧ w = w' := by
  unfold Fn.isCmd
  by_cases h1 : 2 ≤ k
  · by_cases h2 : k ≤ 11
    · rw [decide_eq_true h1, decide_eq_true h2]
      go_enter Try.func81, Try.ntmps81
      go_wp2
      go_ret
      exact ⟨rfl, rfl⟩
    · rw [decide_eq_true h1, decide_eq_false h2]
      go_enter Try.func81, Try.ntmps81
      go_wp2
      go_ret
      exact ⟨rfl, rfl⟩
  · rw [decide_eq_false h1]
    go_enter Try.func81, Try.ntmps81
    go_wp2
    go_ret
    exact ⟨rfl, rfl⟩
theorem implNoTest (k : Int) (w : World) : Calls Try.prog 72 #[.int .i64 k] w fun e w' => e = .returned (.bool (!Fn.isTest k)) ∧ w = w' := by
  have hI := implIsTest k w
  generalize Fn.isTest k = b at hI ⊢
  cases b
  · go_enter Try.func72, Try.ntmps72
    go_wp2_with fail
    refine hI.mono ?_
    rintro e w2 ⟨rfl, rfl⟩
    go_wp2
    go_ret
    exact ⟨rfl, rfl⟩
  · go_enter Try.func72, Try.ntmps72
    go_wp2_with fail
    refine hI.mono ?_
    rintro e w2 ⟨rfl, rfl⟩
    go_wp2
    go_ret
    exact ⟨rfl, rfl⟩
theorem implNoCmd (k : Int) (w : World) : Calls Try.prog 70 #[.int .i64 k] w fun e w' => e = .returned (.bool (!Fn.isCmd k)) ∧ w = w' := by
  have hI := implIsCmd k w
  generalize Fn.isCmd k = b at hI ⊢
  cases b
  · go_enter Try.func70, Try.ntmps70
    go_wp2_with fail
    refine hI.mono ?_
    rintro e w2 ⟨rfl, rfl⟩
    go_wp2
    go_ret
    exact ⟨rfl, rfl⟩
  · go_enter Try.func70, Try.ntmps70
    go_wp2_with fail
    refine hI.mono ?_
    rintro e w2 ⟨rfl, rfl⟩
    go_wp2
    go_ret
    exact ⟨rfl, rfl⟩
theorem kindNoTest : KindI 72 (fun k => !Fn.isTest k) := ⟨Go.Proofs.enters_of Try.func72 (by kernel_rfl) rfl, implNoTest⟩
theorem kindNoCmd : KindI 70 (fun k => !Fn.isCmd k) := ⟨Go.Proofs.enters_of Try.func70 (by kernel_rfl) rfl, implNoCmd⟩
set_option maxHeartbeats 400000 in
theorem implSmallB (c : UInt8) (w : World) : Calls Try.prog 83 #[.int .u8 (c.toNat : Int)] w fun e w' => e = .returned (.bool (Fn.low c)) ∧ w = w' := by
  have h8 : c.toNat < 256 := UInt8.toNat_lt _
  unfold Fn.low
  by_cases h1 : 97 ≤ c.toNat
  · by_cases h2 : c.toNat ≤ 122
    · rw [decide_eq_true h1, decide_eq_true h2]
      have h2' : decide ((c.toNat : Int) ≤ 122) = true := by simp; omega
      go_enter Try.func83, Try.ntmps83
      go_wp2
      go_ret
      exact ⟨rfl, rfl⟩
    · rw [decide_eq_true h1, decide_eq_false h2]
      have h2' : decide ((c.toNat : Int) ≤ 122) = false := by simp; omega
      go_enter Try.func83, Try.ntmps83
      go_wp2
      go_ret
      exact ⟨rfl, rfl⟩
  · rw [decide_eq_false h1]
    go_enter Try.func83, Try.ntmps83
    go_wp2
    go_ret
    exact ⟨rfl, rfl⟩
theorem kindSmall : Kind 83 Fn.low := ⟨Go.Proofs.enters_of Try.func83 (by kernel_rfl) rfl, implSmallB⟩
set_option maxHeartbeats 400000 in
theorem implVariable (k : ByteArray) (w : World) (hs : k.size ≤ 1048576) : Calls Try.prog 78 #[.string k] w fun e w' => e = .returned (.bool (Fn.nameOk k)) ∧ w = w' := by
  have hA := mkH (implAllOf kindSmall k w (by omega))
  unfold Fn.nameOk
  generalize k.data.toList.all Fn.low = A at *
  have he : k.toList.isEmpty = decide (k.size = 0) := by
    rw [ByteArray.toList_eq]
    cases h : k.data.toList with
    | nil =>
      have : k.size = 0 := by
        have := congrArg List.length h
        simpa using this
      simp [this]
    | cons a r =>
      have : k.size ≠ 0 := by
        have := congrArg List.length h
        simp at this
        omega
      simp [this]
  by_cases h1 : 1 ≤ k.size
  · have he1 : k.toList.isEmpty = false := by rw [he]; exact decide_eq_false (by omega)
    by_cases h2 : k.size ≤ 20
    · rw [decide_eq_true h1, decide_eq_true h2, Bool.true_and, Bool.true_and]
      clear he
      go_enter Try.func78, Try.ntmps78
      go_wp2_with fail
      refine hA.out.mono ?_
      rintro e w2 ⟨rfl, rfl⟩
      clear hA
      go_wp2
      go_ret
      exact ⟨rfl, rfl⟩
    · rw [decide_eq_true h1, decide_eq_false h2]
      clear he hA
      go_enter Try.func78, Try.ntmps78
      go_wp2
      go_ret
      exact ⟨rfl, rfl⟩
  · have he1 : k.toList.isEmpty = true := by rw [he]; exact decide_eq_true (by omega)
    rw [decide_eq_false h1]
    clear he hA
    go_enter Try.func78, Try.ntmps78
    go_wp2
    go_ret
    exact ⟨rfl, rfl⟩
theorem implNoVariable (k : ByteArray) (w : World) (hs : k.size ≤ 1048576) : Calls Try.prog 67 #[.string k] w fun e w' => e = .returned (.bool (!Fn.nameOk k)) ∧ w = w' := by
  have hI := implVariable k w hs
  generalize Fn.nameOk k = b at hI ⊢
  cases b
  · go_enter Try.func67, Try.ntmps67
    go_wp2_with fail
    refine hI.mono ?_
    rintro e w2 ⟨rfl, rfl⟩
    go_wp2
    go_ret
    exact ⟨rfl, rfl⟩
  · go_enter Try.func67, Try.ntmps67
    go_wp2_with fail
    refine hI.mono ?_
    rintro e w2 ⟨rfl, rfl⟩
    go_wp2
    go_ret
    exact ⟨rfl, rfl⟩
theorem kindNoVar : KindT 67 (fun k => !Fn.nameOk k) := ⟨Go.Proofs.enters_of Try.func67 (by kernel_rfl) rfl, implNoVariable⟩
theorem implLongSay (k : ByteArray) (w : World) (hs : k.size ≤ 1048576) : Calls Try.prog 79 #[.string k] w fun e w' => e = .returned (.bool (!decide (k.size ≤ 1000))) ∧ w = w' := by
  by_cases h : k.size ≤ 1000
  · have h' : decide ((1000 : Int) < (k.size : Int)) = false := by simp; omega
    rw [decide_eq_true h]
    go_enter Try.func79, Try.ntmps79
    go_wp2
    go_ret
    exact ⟨rfl, rfl⟩
  · have h' : decide ((1000 : Int) < (k.size : Int)) = true := by simp; omega
    rw [decide_eq_false h]
    go_enter Try.func79, Try.ntmps79
    go_wp2
    go_ret
    exact ⟨rfl, rfl⟩
theorem kindLong : KindT 79 (fun k => !decide (k.size ≤ 1000)) := ⟨Go.Proofs.enters_of Try.func79 (by kernel_rfl) rfl, implLongSay⟩
end Go.Proofs.Ytonnmbkfjiddnaa
