
/- What marks a place: plain, and the law's own walk. -/
import Derived.Test.YtmclnkcpflehdaaDoorGenBase
import Derived.Deep.QuietTactic
import Derived.BigQuiet
import Derived.Deep.RegionWith
namespace Go.Proofs.YtmclnkcpflehdaaDoor
open Go.RowKit Go.Lib Go.Maps
namespace Pl

def dg : Nat → Nat → List UInt8 → List UInt8
  | 0, _, out => out
  | f + 1, n, out => if n = 0 then out else dg f (n / 10) (UInt8.ofNat (48 + n % 10) :: out)

/-- What marks place n. -/
def mark (n : Nat) : List UInt8 := 109 :: dg n n []

theorem dg_zero (f : Nat) (out : List UInt8) : dg f 0 out = out := by
  cases f <;> simp [dg]
theorem dg_step (f n : Nat) (out : List UInt8) (h : 0 < n) (hf : n ≤ f) : dg f n out = dg (f - 1) (n / 10) (UInt8.ofNat (48 + n % 10) :: out) := by
  obtain ⟨g, rfl⟩ : ∃ g, f = g + 1 := ⟨f - 1, by omega⟩
  rw [dg, if_neg (by omega)]
  rfl
theorem cat_mk (a b : List UInt8) : (⟨a.toArray⟩ : ByteArray) ++ ⟨b.toArray⟩ = ⟨(a ++ b).toArray⟩ := by
  apply ByteArray.ext
  simp
end Pl
set_option maxHeartbeats 400000 in
theorem markText (n : Nat) (w : World) (h0 : 0 < n) (hn : n ≤ 10000000000000) :
    Calls Tryd.prog 32 #[.int .i64 n] w fun e w' => e = .returned (.string ⟨(Pl.mark n).toArray⟩) ∧ Below w.heap.size w w' := by
  have ht : decide ((n : Int) ≤ 0) = false := by simp; omega
  go_enter Tryd.func32, Tryd.ntmps32
  go_wp2
  go_loopw [0, 3] (fun t v wr => ∃ (f k : Nat) (out : List UInt8), t = .int .i64 k ∧ v = .string ⟨out.toArray⟩ ∧ k ≤ n ∧ out.length + k ≤ n ∧ k ≤ f ∧ Hid (Pl.dg f k out = Pl.dg n n []) ∧ Below w.heap.size w wr) (fun t _ _ => (RowKit.intOf t).toNat)
  case atStart => exact ⟨n, n, [], rfl, rfl, Nat.le_refl _, by simp, Nat.le_refl _, rfl, Below.refl _ _⟩
  case round =>
    obtain ⟨f, k, out, rfl, rfl, hk, hl, hf, hd, hb⟩ := hrel
    by_cases hk0 : 0 < k
    · have hst := Pl.dg_step f k out hk0 hf
      have hu : ((UInt8.ofNat (48 + k % 10)).toNat : Int) = 48 + (k : Int) % 10 := by
        rw [UInt8.toNat_ofNat_of_lt' (by simp [UInt8.size]; omega)]
        omega
      generalize UInt8.ofNat (48 + k % 10) = d at hst hu
      have Hst := mkHid hst
      have hcv : (convert 51 9 (.slice (some ⟨wr.heap.size, 0, none⟩) 1 1)).run Tryd.prog (wr.alloc (.cells #[.int .u8 (48 + (k : Int) % 10)] 5)) = .ok (.string ⟨#[d]⟩) (wr.alloc (.cells #[.int .u8 (48 + (k : Int) % 10)] 5)) := by
        refine run_convert_bytes_back (P := Tryd.prog) _ 51 9 5 ⟨wr.heap.size, 0, none⟩ 1 [d] Tryd.underlying51 Tryd.underlying5 Tryd.underlying9 ?_
        intro j hj
        match j, hj with
        | 0, hj => rw [add_off]; simp only [List.getElem_cons_zero, hu]; simp
      have hbs := hb.size
      clear hu hst
      go_wp2
      go_roundw
      case rel => exact ⟨f - 1, k / 10, d :: out, by go_num, congrArg Value.string (Pl.cat_mk [d] out), by omega, by simp; omega, by omega, (Hst.out.symm.trans hd.out), hb.alloc hbs _⟩
      case measure => simp [RowKit.intOf]; omega
    · have hk0' : k = 0 := by omega
      subst hk0'
      have hd' : Hid (out = Pl.dg n n []) := by have := hd.out; rw [Pl.dg_zero] at this; exact this
      clear hd
      go_wp2
      go_ret
      refine ⟨?_, hb⟩
      rw [Pl.mark, ← hd'.out]
      exact congrArg (fun x => Ending.returned (Value.string x)) (Pl.cat_mk [109] out)
end Go.Proofs.YtmclnkcpflehdaaDoor
