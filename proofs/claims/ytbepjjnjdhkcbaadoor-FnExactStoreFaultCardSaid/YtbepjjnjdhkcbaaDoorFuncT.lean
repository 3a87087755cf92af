
/- Lists of texts asked by a function value. -/
import Derived.Test.YtbepjjnjdhkcbaaDoorTexts
namespace Go.Proofs.YtbepjjnjdhkcbaaDoor
open Go.RowKit Go.Lib Go.Maps
structure KindT (f : FuncId) (K : ByteArray → Bool) : Prop where
  enters : ∀ (args : Array Value) (w : World), (callFunc f args).run Tryd.prog w = .ok (.enter f args) w
  calls : ∀ (t : ByteArray) (w : World), t.size ≤ 1048576 → Calls Tryd.prog f #[.string t] w fun e w' => e = .returned (.bool (K t)) ∧ w = w'
set_option maxRecDepth 20000 in
theorem any_dropT (K : ByteArray → Bool) (F : List ByteArray) (k : Nat) (h : k < F.length) : (F.drop k).any K = (K F[k] || (F.drop (k + 1)).any K) := by
  rw [List.drop_eq_getElem_cons h, List.any_cons]
set_option maxRecDepth 20000 in
set_option maxHeartbeats 1000000 in
theorem implIndexT {f : FuncId} {K : ByteArray → Bool} (hK : KindT f K) (o : Option Addr) (F : List ByteArray) (cap : Nat) (w : World) (hF : Tx w.heap.size w o F) (hlen : F.length ≤ 1048576) (hsz : ∀ t ∈ F, t.size ≤ 1048576) :
    Calls Tryd.prog 68 #[.slice o F.length cap, .func (.func f) #[] #[]] w fun e w' => ∃ i : Int, e = .returned (.int .i64 i) ∧ decide (0 ≤ i) = F.any K ∧ w = w' := by
  have hE := hK.enters
  have HF := mkHid hF
  have Hsz := mkHid hsz
  clear hF hsz
  obtain ⟨R, hR⟩ : ∃ R, F.any K = R := ⟨_, rfl⟩
  have HR : Hid ((F.drop 0).any K = R) := hR
  rw [hR]
  clear hR
  go_enter Tryd.func68, Tryd.ntmps68
  go_wp2
  go_loopw [5, 8] (fun _ i wr => ∃ k : Nat, k ≤ F.length ∧ i = .int .i64 k ∧ Hid ((F.drop k).any K = R) ∧ wr = w) (fun _ i _ => F.length - (Lib.intOf i).toNat)
  case atStart => exact ⟨0, Nat.zero_le _, rfl, HR, rfl⟩
  case round =>
    clear HR
    obtain ⟨k, hk, rfl, hp, rfl⟩ := hrel
    by_cases hlt : k < F.length
    · obtain ⟨a, rfl, ha, hc0⟩ := HF.out k hlt
      have hst := any_dropT K F k hlt
      rw [hp.out] at hst
      have hN := mkHid (fun w => hK.calls F[k] w (Hsz.out _ (List.getElem_mem hlt)))
      have Hst := mkHid hst
      clear hst hp
      generalize K F[k] = nb at *
      generalize F[k] = x at *
      cases nb
      · have HN : Hid ((F.drop (k + 1)).any K = R) := by show _ = _; rw [Hst.out, Bool.false_or]
        clear Hst
        go_wp2_with fail
        refine (hN.out _).mono ?_
        rintro e w2 ⟨rfl, rfl⟩
        go_wp2
        go_roundw
        case rel => exact ⟨k + 1, by omega, by go_num, HN, trivial⟩
        case measure => simp [Lib.intOf]; omega
      · have hR : R = true := by rw [Hst.out, Bool.true_or]
        subst hR
        clear Hst
        go_wp2_with fail
        refine (hN.out _).mono ?_
        rintro e w2 ⟨rfl, rfl⟩
        go_wp2
        go_ret
        exact ⟨k, rfl, by simp, rfl⟩
    · have hR : R = false := by rw [← hp.out, List.drop_eq_nil_of_le (by omega)]; rfl
      subst hR
      clear hp
      go_wp2
      go_ret
      exact ⟨-1, rfl, rfl, rfl⟩
set_option maxRecDepth 20000 in
set_option maxHeartbeats 1000000 in
theorem implContainsT {f : FuncId} {K : ByteArray → Bool} (hK : KindT f K) (o : Option Addr) (F : List ByteArray) (cap : Nat) (w : World) (hF : Tx w.heap.size w o F) (hlen : F.length ≤ 1048576) (hsz : ∀ t ∈ F, t.size ≤ 1048576) :
    Calls Tryd.prog 52 #[.slice o F.length cap, .func (.func f) #[] #[]] w fun e w' => e = .returned (.bool (F.any K)) ∧ w = w' := by
  have hI := implIndexT hK o F cap w hF hlen hsz
  clear hF hsz
  go_enter Tryd.func52, Tryd.ntmps52
  go_wp2_with fail
  refine hI.mono ?_
  rintro e w2 ⟨i, rfl, hi, rfl⟩
  go_wp2
  go_ret
  exact ⟨by rw [← hi]; rfl, rfl⟩
end Go.Proofs.YtbepjjnjdhkcbaaDoor
