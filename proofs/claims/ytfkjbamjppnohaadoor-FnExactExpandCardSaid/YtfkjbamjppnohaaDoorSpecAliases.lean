
/- Domains that begin with no bracket, and aliases: the specification's side. -/
import Derived.Test.YtfkjbamjppnohaaDoorSpecKeyFault
import Derived.Test.YtfkjbamjppnohaaDoorGenAlias
namespace Go.Proofs.YtfkjbamjppnohaaDoor
open Go.RowKit Go.Lib Go.Maps
namespace Ky
def aok (a : GAlias) : Bool := ok a.name && (decide (a.toF.length ≤ 100) && a.toF.all ok)
def asok (F : List GAlias) : Bool := decide (F.length ≤ 100) && F.all aok
theorem all_drop {α : Type} (K : α → Bool) (F : List α) (k : Nat) (h : k < F.length) : (F.drop k).all K = (K F[k] && (F.drop (k + 1)).all K) := by
  rw [List.drop_eq_getElem_cons h, List.all_cons]
theorem all_end {α : Type} (K : α → Bool) (F : List α) (k : Nat) (h : F.length ≤ k) : (F.drop k).all K = true := by
  rw [List.drop_eq_nil_of_le h, List.all_nil]
end Ky
theorem code_bne (b : Bool) : (dcode b != 0) = !b := by cases b <;> rfl
set_option maxHeartbeats 4000000 in
theorem specAliases (o : Option Addr) (F : List GAlias) (cap lo : Nat) (w : World) (hF : GAliassL lo w.heap.size w o F) (hlF : F.length ≤ 1048576) (hfit : ∀ n ∈ F, n.fits 1048576) :
    Calls Tryd.prog 14 #[.slice o F.length cap] w fun e w' => e = .returned (.bool (Ky.asok F)) ∧ Below w.heap.size w w' := by
  obtain ⟨R, hR⟩ : ∃ R, Ky.asok F = R := ⟨_, rfl⟩
  rw [hR]
  by_cases h1 : F.length ≤ 100
  · have b1 : decide ((100 : Int) < (F.length : Int)) = false := by simp; omega
    rw [Ky.asok, decide_eq_true h1, Bool.true_and] at hR
    replace hR : Hid ((F.drop 0).all Ky.aok = R) := hR
    have HF := mkHid hF
    have Hfit := mkHid hfit
    clear hF hfit
    go_enter Tryd.func14, Tryd.ntmps14
    go_wp2
    generalize hG : w.heap.size = G at *
    go_loopw [3] (fun iv wr => ∃ i : Nat, i ≤ F.length ∧ iv = .int .i64 i ∧ Hid ((F.drop i).all Ky.aok = R) ∧ Below G w wr) (fun iv _ => F.length - (Lib.intOf iv).toNat)
    case atStart => exact ⟨0, Nat.zero_le _, rfl, hR, hG ▸ Below.refl _ _⟩
    case round =>
      clear hR
      obtain ⟨i, hi', rfl, hR, hb⟩ := hrel
      by_cases hlt : i < F.length
      · obtain ⟨a, v1, rfl, ha0, ha, hA0, hI⟩ := HF.out i hlt
        have hA := hA0.same (Same.of_below (lo := lo) hb (Nat.le_refl _)) (by rw [add_blockG]; exact ha0) (by rw [add_blockG]; exact ha)
        obtain ⟨⟨a1, e1, rfl, t1⟩⟩ := hI
        have hst : Hid (R = (Ky.aok F[i] && (F.drop (i + 1)).all Ky.aok)) := show _ = _ from by rw [← hR.out]; exact Ky.all_drop _ _ _ hlt
        obtain ⟨f1, f2, f3⟩ := Hfit.out F[i] (List.getElem_mem hlt)
        have c0 := hA.c0
        have c1 := hA.c1
        have HA0 := mkHid hA0
        have T1 := mkHid t1
        have Hf3 := mkHid f3
        have cK := mkHid (specKeyFault F[i].name wr f1)
        obtain ⟨rest, hrest⟩ : ∃ b, (F.drop (i + 1)).all Ky.aok = b := ⟨_, rfl⟩
        rw [hrest] at hst
        have hsz := hb.size
        have Hha : Hid (lo ≤ (a.add (i * 2)).block ∧ (a.add (i * 2)).block < G) := ⟨by rw [add_blockG]; exact ha0, by rw [add_blockG]; exact ha⟩
        replace hrest := mkHid hrest
        clear hA hA0 t1 f3 hR
        generalize F[i] = n at *
        cases hn : Ky.ok n.name
        · rw [hn] at cK
          have hr : Hid (R = false) := show _ = _ from by rw [hst.out, Ky.aok, hn, Bool.false_and, Bool.false_and]
          clear hn
          go_wp2_with fail
          refine cK.out.mono ?_
          rintro e w1 ⟨rfl, hb1⟩
          simp only [dcode]
          go_wp2
          go_ret
          rw [hr.out]
          first | exact ⟨rfl, hb.trans (hb1.mono (hG ▸ hsz))⟩ | (rw [hG]; exact ⟨rfl, hb.trans (hb1.mono (hG ▸ hsz))⟩)
        · rw [hn] at cK
          go_wp2_with fail
          refine cK.out.mono ?_
          rintro e w1 ⟨rfl, hb1⟩
          simp only [dcode]
          have hbw := hb.trans (hb1.mono (hG ▸ hsz))
          have hA1 := HA0.out.same (Same.of_below (lo := lo) hbw (Nat.le_refl _)) Hha.out.1 Hha.out.2
          have d1 := hA1.c1
          clear cK hb1 hA1 hb c0 c1
          by_cases h2 : n.toF.length ≤ 100
          · have b2 : decide ((100 : Int) < (n.toF.length : Int)) = false := by simp; omega
            have hin0 : Hid (((n.toF.drop 0).all Ky.ok && rest) = R) := show _ = _ from by rw [hst.out, Ky.aok, hn, decide_eq_true h2, Bool.true_and, Bool.true_and, List.drop_zero]
            clear hst hn
            go_wp2
            clear d1
            go_loopw [4] (fun kv wr => ∃ k : Nat, k ≤ n.toF.length ∧ kv = .int .i64 k ∧ Hid (((n.toF.drop k).all Ky.ok && rest) = R) ∧ Below G w wr) (fun kv _ => n.toF.length - (Lib.intOf kv).toNat)
            case atStart => exact ⟨0, Nat.zero_le _, rfl, hin0, hbw⟩
            case round =>
              clear hin0 hbw
              obtain ⟨k, hk, rfl, hRk, hb⟩ := hrel
              have hA1 := HA0.out.same (Same.of_below (lo := lo) hb (Nat.le_refl _)) Hha.out.1 Hha.out.2
              have d1 := hA1.c1
              have hsz := hb.size
              by_cases hkl : k < n.toF.length
              · obtain ⟨b, rfl, hb0, hb1, ck⟩ := (T1.out.below hb (Nat.le_refl _)) k hkl
                have cT := mkHid (specKeyFault n.toF[k] wr (Hf3.out _ (List.getElem_mem hkl)))
                have hst : Hid (R = (Ky.ok n.toF[k] && (n.toF.drop (k + 1)).all Ky.ok && rest)) := show _ = _ from by rw [← hRk.out, Ky.all_drop _ _ _ hkl]
                clear hRk hA1
                generalize n.toF[k] = t at *
                cases ht : Ky.ok t
                · rw [ht] at cT
                  have hr : Hid (R = false) := show _ = _ from by rw [hst.out, ht]; rfl
                  clear ht
                  go_wp2_with fail
                  refine cT.out.mono ?_
                  rintro e w2 ⟨rfl, hb2⟩
                  simp only [dcode]
                  go_wp2
                  go_ret
                  rw [hr.out]
                  first | exact ⟨rfl, hb.trans (hb2.mono (hG ▸ hsz))⟩ | (rw [hG]; exact ⟨rfl, hb.trans (hb2.mono (hG ▸ hsz))⟩)
                · rw [ht] at cT
                  have hr : Hid (((n.toF.drop (k + 1)).all Ky.ok && rest) = R) := show _ = _ from by rw [hst.out, ht, Bool.true_and]
                  clear ht
                  go_wp2_with fail
                  refine cT.out.mono ?_
                  rintro e w2 ⟨rfl, hb2⟩
                  simp only [dcode]
                  go_wp2
                  go_roundw
                  case rel => exact ⟨k + 1, by omega, by go_num, hr, hb.trans (hb2.mono (hG ▸ hsz))⟩
                  case measure => simp [Lib.intOf]; omega
              · have hr : Hid (rest = R) := show _ = _ from by rw [← hRk.out, Ky.all_end _ _ _ (by omega), Bool.true_and]
                clear hRk
                go_wp2
                go_roundw
                case rel => exact ⟨i + 1, by omega, by go_num, show _ = _ from hrest.out.trans hr.out, hb⟩
                case measure => simp [Lib.intOf]; omega
          · have b2 : decide ((100 : Int) < (n.toF.length : Int)) = true := by simp; omega
            have hr : Hid (R = false) := show _ = _ from by rw [hst.out, Ky.aok, hn, decide_eq_false h2, Bool.false_and, Bool.and_false, Bool.false_and]
            clear hst hn
            go_wp2
            go_ret
            rw [hr.out]
            first | exact ⟨rfl, hbw⟩ | (rw [hG]; exact ⟨rfl, hbw⟩)
      · have hr : Hid (R = true) := show _ = _ from by rw [← hR.out]; exact Ky.all_end _ _ _ (by omega)
        go_wp2
        go_ret
        rw [hr.out]
        first | exact ⟨rfl, hb⟩ | (rw [hG]; exact ⟨rfl, hb⟩)
  · have b1 : decide ((100 : Int) < (F.length : Int)) = true := by simp; omega
    have hr : Hid (R = false) := show _ = _ from by rw [← hR, Ky.asok, decide_eq_false h1, Bool.false_and]
    clear hF hfit hR h1
    go_enter Tryd.func14, Tryd.ntmps14
    go_wp2
    go_ret
    rw [hr.out]
    exact ⟨rfl, Below.refl _ _⟩
end Go.Proofs.YtfkjbamjppnohaaDoor
