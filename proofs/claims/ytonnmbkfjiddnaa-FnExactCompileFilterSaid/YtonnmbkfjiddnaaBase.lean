
/- The walks' base: a long text, a text whose bytes are all of a kind, the copy of a text. -/
import Derived.Test.YtonnmbkfjiddnaaChecked
import Derived.Test.YtonnmbkfjiddnaaFoldPlain
import Derived.Test.YtonnmbkfjiddnaaBytes
import Derived.Test.YtonnmbkfjiddnaaShelf
import Derived.Shelf.Abstract
import Derived.WalkKit
import Derived.WalkLawsBesides
import Derived.WalkSpells
namespace Go.Proofs.Ytonnmbkfjiddnaa
open Go.RowKit Go.Lib
theorem Try.info5 : (Try.prog.info? 5).map (fun i => (i.zero, i.size, i.bytes)) = some (some (.int .u8 0), 1, 1) := by kernel_rfl
/-- A function value that tells a byte's kind. -/
structure Kind (f : FuncId) (K : UInt8 → Bool) : Prop where
  enters : ∀ (args : Array Value) (w : World), (callFunc f args).run Try.prog w = .ok (.enter f args) w
  calls : ∀ (c : UInt8) (w : World), Calls Try.prog f #[.int .u8 (c.toNat : Int)] w fun e w' => e = .returned (.bool (K c)) ∧ w = w'
set_option maxHeartbeats 400000 in
theorem implAllOf {f : FuncId} {K : UInt8 → Bool} (hK : Kind f K) (s : ByteArray) (w : World) (_hs : s.size ≤ 1100000) :
    Calls Try.prog 82 #[.string s, .func (.func f) #[] #[]] w fun e w' => e = .returned (.bool (s.data.toList.all K)) ∧ w = w' := by
  have hE := hK.enters
  go_enter Try.func82, Try.ntmps82
  go_wp2
  go_loopw [5, 8] (fun _ i wr => ∃ k : Nat, k ≤ s.size ∧ i = .int .i64 k ∧ Hid ((s.data.toList.drop k).all K = s.data.toList.all K) ∧ wr = w) (fun _ i _ => s.size - (Lib.intOf i).toNat)
  case atStart => exact ⟨0, Nat.zero_le _, rfl, rfl, rfl⟩
  case round =>
    obtain ⟨k, hk, rfl, hp, rfl⟩ := hrel
    by_cases hlt : k < s.size
    · have h8 : s[k].toNat < 256 := UInt8.toNat_lt _
      have hst := Pl.all_step K s.data.toList k (by simpa using hlt)
      rw [Pl.at_list s k hlt] at hst
      have Hst : Hid ((s.data.toList.drop k).all K = (K s[k] && (s.data.toList.drop (k + 1)).all K)) := hst
      clear hst
      cases hkc : K s[k]
      · go_wp2_with fail
        refine (hK.calls s[k] _).mono ?_
        rintro e w2 ⟨rfl, rfl⟩
        rw [hkc]
        go_wp2
        go_ret
        have := Hst.out
        rw [hkc, Bool.false_and, hp.out] at this
        exact ⟨by rw [this]; rfl, rfl⟩
      · have Hkc : Hid (K s[k] = true) := hkc
        go_wp2_with fail
        refine (hK.calls s[k] _).mono ?_
        rintro e w2 ⟨rfl, rfl⟩
        rw [hkc]
        clear hkc
        go_wp2
        go_roundw
        case rel =>
          refine ⟨k + 1, by omega, by go_num, ?_, trivial⟩
          have := Hst.out
          rw [Hkc.out, Bool.true_and, hp.out] at this
          exact this.symm
        case measure => simp [Lib.intOf]; omega
    · have h0 : s.data.toList.all K = true := by rw [← hp.out]; exact Pl.all_done K _ k (by simp; omega)
      have H0 : Hid (s.data.toList.all K = true) := h0
      clear h0 hp
      go_wp2
      go_ret
      exact ⟨by rw [H0.out]; rfl, rfl⟩
theorem libClone (s : ByteArray) (w : World) (hs : s.size ≤ 1100000) :
    Calls Try.prog 58 #[.string s] w fun e w' => e = .returned (.string s) ∧ Below w.heap.size w w' := by
  go_enter Try.func58, Try.ntmps58
  go_wp2_with fail
  refine (Try.stringslite_Clone s _ (by omega)).mono ?_
  rintro e w2 ⟨rfl, hb⟩
  go_wp2
  go_ret
  exact ⟨rfl, hb⟩
end Go.Proofs.Ytonnmbkfjiddnaa
