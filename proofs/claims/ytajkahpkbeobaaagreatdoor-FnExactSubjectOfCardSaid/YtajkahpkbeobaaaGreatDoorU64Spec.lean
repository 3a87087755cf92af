
/- The walk of UnBase64 in the model. -/
import Derived.Test.YtajkahpkbeobaaaGreatDoorU64Value
import Derived.RegionTactic
import Derived.Outline
namespace Go.Proofs.YtajkahpkbeobaaaGreatDoor
open Go.RowKit Go.Lib
set_option maxRecDepth 20000 in
theorem bc1 (x : Int) (a : UInt8) (h1 : x = (a.toNat : Int)) : (#[.int .u8 x] : Array Value).toList = byteCells [a] := by subst h1; rfl
set_option maxRecDepth 20000 in
theorem bc2 (x y : Int) (a b : UInt8) (h1 : x = (a.toNat : Int)) (h2 : y = (b.toNat : Int)) : (#[.int .u8 x, .int .u8 y] : Array Value).toList = byteCells [a, b] := by subst h1; subst h2; rfl
set_option maxRecDepth 20000 in
theorem bc3 (x y z : Int) (a b c : UInt8) (h1 : x = (a.toNat : Int)) (h2 : y = (b.toNat : Int)) (h3 : z = (c.toNat : Int)) : (#[.int .u8 x, .int .u8 y, .int .u8 z] : Array Value).toList = byteCells [a, b, c] := by subst h1; subst h2; subst h3; rfl
set_option maxRecDepth 20000 in
theorem ofN (n : Nat) (h : n < 256) : (UInt8.ofNat n).toNat = n := UInt8.toNat_ofNat_of_lt' (by simpa [UInt8.size] using h)
set_option maxRecDepth 20000 in
theorem q61 (c : UInt8) (h : c.toNat = 61) : c = 61 := UInt8.toNat.inj h
set_option maxRecDepth 20000 in
theorem Own.part {B : Nat} {v : Value} {p : List UInt8} {w : World} (h : Own B v p w) :
    ∃ base cap, v = .slice base p.length cap ∧ (p = [] ∨ ∃ g, base = some ⟨g, 0, none⟩ ∧ g < w.heap.size ∧ ∀ (j : Nat) (hj : j < p.length), w.cell? ⟨g, j, none⟩ = some (.int .u8 (p[j].toNat : Int))) := by
  rcases h.form with ⟨rfl, rfl⟩ | ⟨g, cap, rfl⟩
  · exact ⟨none, 0, rfl, .inl rfl⟩
  · exact ⟨_, cap, rfl, .inr ⟨g, rfl, (World.ownsRow.lt h g rfl).2, fun j hj => h.cell j hj⟩⟩
set_option maxRecDepth 20000 in
theorem Pu.val61 : Pu.val 61 = 64 := by decide
set_option maxRecDepth 20000 in
theorem valI_good (c : UInt8) (h : Pu.val c < 64) : valI c = (Pu.val c : Int) := if_pos h
set_option maxRecDepth 20000 in
theorem valI_bad (c : UInt8) (h : ¬ Pu.val c < 64) : valI c = -1 := if_neg h
set_option maxRecDepth 20000 in
theorem specGood (c : UInt8) (w : World) (h : Pu.val c < 64) :
    Calls Tryz.prog 85 #[.int .u8 (c.toNat : Int)] w fun e w' => e = .returned (.int .i64 (Pu.val c : Int)) ∧ w = w' := by
  rw [← valI_good c h]; exact specVal64 c w
set_option maxRecDepth 20000 in
theorem specBad (c : UInt8) (w : World) (h : ¬ Pu.val c < 64) :
    Calls Tryz.prog 85 #[.int .u8 (c.toNat : Int)] w fun e w' => e = .returned (.int .i64 (-1)) ∧ w = w' := by
  rw [← valI_bad c h]; exact specVal64 c w
set_option maxRecDepth 20000 in
theorem Pu.quads_step (d : List UInt8) (k : Nat) (h : k + 4 ≤ d.length) :
    Pu.quads (d.drop k) = (Pu.quad (decide (k + 4 = d.length)) (d[k]'(by omega)) (d[k + 1]'(by omega)) (d[k + 2]'(by omega)) (d[k + 3]'(by omega))).bind fun x => (Pu.quads (d.drop (k + 4))).map fun y => x ++ y := by
  have e : d.drop k = d[k]'(by omega) :: d[k + 1]'(by omega) :: d[k + 2]'(by omega) :: d[k + 3]'(by omega) :: d.drop (k + 4) := by
    rw [List.drop_eq_getElem_cons (show k < d.length by omega), List.drop_eq_getElem_cons (show k + 1 < d.length by omega), List.drop_eq_getElem_cons (show k + 2 < d.length by omega), List.drop_eq_getElem_cons (show k + 3 < d.length by omega)]
  rw [e, Pu.quads]
  have e2 : (d.drop (k + 4)).isEmpty = decide (k + 4 = d.length) := by
    rw [Bool.eq_iff_iff]
    simp [List.isEmpty_iff, List.drop_eq_nil_iff]
    omega
  rw [e2]
set_option maxRecDepth 20000 in
theorem Pu.quads_some (d : List UInt8) (k : Nat) (p x : List UInt8) (h : k + 4 ≤ d.length) (hp : Pu.quads d = (Pu.quads (d.drop k)).map fun y => p ++ y)
    (hq : Pu.quad (decide (k + 4 = d.length)) (d[k]'(by omega)) (d[k + 1]'(by omega)) (d[k + 2]'(by omega)) (d[k + 3]'(by omega)) = some x) :
    Pu.quads d = (Pu.quads (d.drop (k + 4))).map fun y => (p ++ x) ++ y := by
  rw [hp, Pu.quads_step d k h, hq]
  cases Pu.quads (d.drop (k + 4)) <;> simp
set_option maxRecDepth 20000 in
theorem Pu.quads_none (d : List UInt8) (k : Nat) (p : List UInt8) (h : k + 4 ≤ d.length) (hp : Pu.quads d = (Pu.quads (d.drop k)).map fun y => p ++ y)
    (hq : Pu.quad (decide (k + 4 = d.length)) (d[k]'(by omega)) (d[k + 1]'(by omega)) (d[k + 2]'(by omega)) (d[k + 3]'(by omega)) = none) :
    Pu.quads d = none := by
  rw [hp, Pu.quads_step d k h, hq]
  simp
set_option maxRecDepth 20000 in
theorem round4 (d : List UInt8) (k : Nat) (p : List UInt8) (g : Nat) (wr : World) (h : k + 4 ≤ d.length) (hp : Pu.quads d = (Pu.quads (d.drop k)).map fun y => p ++ y)
    (hc : ∀ (j : Nat) (hj : j < d.length), wr.cell? ⟨g, j, none⟩ = some (.int .u8 (d[j].toNat : Int))) :
    ∃ a b c e : UInt8, wr.cell? ⟨g, k, none⟩ = some (.int .u8 (a.toNat : Int)) ∧ wr.cell? ⟨g, k + 1, none⟩ = some (.int .u8 (b.toNat : Int)) ∧ wr.cell? ⟨g, k + 2, none⟩ = some (.int .u8 (c.toNat : Int)) ∧ wr.cell? ⟨g, k + 3, none⟩ = some (.int .u8 (e.toNat : Int)) ∧
      (∀ x, Pu.quad (decide (k + 4 = d.length)) a b c e = some x → Pu.quads d = (Pu.quads (d.drop (k + 4))).map fun y => (p ++ x) ++ y) ∧ (Pu.quad (decide (k + 4 = d.length)) a b c e = none → Pu.quads d = none) :=
  ⟨_, _, _, _, hc k (by omega), hc (k + 1) (by omega), hc (k + 2) (by omega), hc (k + 3) (by omega), fun x => Pu.quads_some d k p x h hp, Pu.quads_none d k p h hp⟩
set_option maxRecDepth 100000 in
set_option maxHeartbeats 20000000 in
theorem specUn (s : ByteArray) (w : World) (hs : s.size ≤ 100000) :
    Calls Tryz.prog 59 #[.string s] w fun e w' => e = .returned (bytesV (Pu.un64 s.data.toList)) ∧ Below w.heap.size w w' := by
  obtain ⟨i0, hi, hz0, hz1, hz2⟩ := info_parts Tryz.info5
  have hc0 : decide ((100000 : Int) < (s.size : Int)) = false := by simp; omega
  go_enter Tryz.func59, Tryz.ntmps59
  go_wp2
  have hroom := mkH (room w)
  have hmade := mkH (Own.made (w.alloc (.cells #[.bool false, .string ⟨#[]⟩] 31)).heap.size (w.alloc (.cells #[.bool false, .string ⟨#[]⟩] 31)) (Nat.le_refl _))
  have hbm := mkH ((Below.refl (w.alloc (.cells #[.bool false, .string ⟨#[]⟩] 31)).heap.size (w.alloc (.cells #[.bool false, .string ⟨#[]⟩] 31))).alloc (Nat.le_refl _) (.cells #[] 5))
  obtain ⟨W, hW⟩ : ∃ W, W = w.alloc (.cells #[.bool false, .string ⟨#[]⟩] 31) := ⟨_, rfl⟩
  rw [← hW] at hroom hmade hbm
  have HW := mkH hW
  clear hW
  go_loopw [3, 4] (fun v i wr => ∃ (k : Nat), k ≤ s.size ∧ i = .int .i64 k ∧ Own W.heap.size v (Pu.strip (s.data.toList.take k)) wr ∧ Below W.heap.size W wr) (fun _ i _ => s.size - (RowKit.intOf i).toNat)
  case atStart =>
    refine ⟨0, Nat.zero_le _, rfl, ?_, ?_⟩
    · have := hmade.out
      rw [hroom.out.size] at this ⊢
      rw [← HW.out]
      exact this
    · rw [← HW.out]
      exact hbm.out
  case round =>
    obtain ⟨k, hk, rfl, hown, hb⟩ := hrel
    have hbs := hb.size
    by_cases hlt : k < s.size
    · have h8 : s[k].toNat < 256 := UInt8.toNat_lt _
      have hstep : Hid (Pu.strip (s.data.toList.take (k + 1)) = Pu.strip (s.data.toList.take k) ++ (if Pu.isSpace s[k] then [] else [s[k]])) := Pu.strip_take _ k (by simp; omega)
      have hlen := Pu.strip_len s.data.toList k
      by_cases e32 : s[k].toNat = 32
      · have hsp : Hid (Pu.isSpace s[k] = true) := by unfold Pu.isSpace; rw [show (s[k].toNat == 32) = true from beq_iff_eq.2 (by omega)]; simp [Hid]
        have q32 : ((s[k].toNat : Int) == 32) = true := by rw [beq_iff_eq]; omega
        have q9 : ((s[k].toNat : Int) == 9) = false := by rw [beq_eq_false_iff_ne]; omega
        have q13 : ((s[k].toNat : Int) != 13) = true := by rw [bne, beq_eq_false_iff_ne.2 (by omega)]; rfl
        have q10 : ((s[k].toNat : Int) != 10) = true := by rw [bne, beq_eq_false_iff_ne.2 (by omega)]; rfl
        go_wp2
        go_roundw
        case rel => exact ⟨k + 1, by omega, by go_num, by rw [hstep.out, if_pos hsp.out, List.append_nil]; exact hown, hb⟩
        case measure => simp [RowKit.intOf]; omega
      by_cases e9 : s[k].toNat = 9
      · have hsp : Hid (Pu.isSpace s[k] = true) := by unfold Pu.isSpace; rw [show (s[k].toNat == 9) = true from beq_iff_eq.2 (by omega)]; simp [Hid]
        have q32 : ((s[k].toNat : Int) == 32) = false := by rw [beq_eq_false_iff_ne]; omega
        have q9 : ((s[k].toNat : Int) == 9) = true := by rw [beq_iff_eq]; omega
        have q13 : ((s[k].toNat : Int) != 13) = true := by rw [bne, beq_eq_false_iff_ne.2 (by omega)]; rfl
        have q10 : ((s[k].toNat : Int) != 10) = true := by rw [bne, beq_eq_false_iff_ne.2 (by omega)]; rfl
        go_wp2
        go_roundw
        case rel => exact ⟨k + 1, by omega, by go_num, by rw [hstep.out, if_pos hsp.out, List.append_nil]; exact hown, hb⟩
        case measure => simp [RowKit.intOf]; omega
      by_cases e13 : s[k].toNat = 13
      · have hsp : Hid (Pu.isSpace s[k] = true) := by unfold Pu.isSpace; rw [show (s[k].toNat == 13) = true from beq_iff_eq.2 (by omega)]; simp [Hid]
        have q32 : ((s[k].toNat : Int) == 32) = false := by rw [beq_eq_false_iff_ne]; omega
        have q9 : ((s[k].toNat : Int) == 9) = false := by rw [beq_eq_false_iff_ne]; omega
        have q13 : ((s[k].toNat : Int) != 13) = false := by rw [bne, beq_iff_eq.2 (by omega)]; rfl
        have q10 : ((s[k].toNat : Int) != 10) = true := by rw [bne, beq_eq_false_iff_ne.2 (by omega)]; rfl
        go_wp2
        go_roundw
        case rel => exact ⟨k + 1, by omega, by go_num, by rw [hstep.out, if_pos hsp.out, List.append_nil]; exact hown, hb⟩
        case measure => simp [RowKit.intOf]; omega
      by_cases e10 : s[k].toNat = 10
      · have hsp : Hid (Pu.isSpace s[k] = true) := by unfold Pu.isSpace; rw [show (s[k].toNat == 10) = true from beq_iff_eq.2 (by omega)]; simp [Hid]
        have q32 : ((s[k].toNat : Int) == 32) = false := by rw [beq_eq_false_iff_ne]; omega
        have q9 : ((s[k].toNat : Int) == 9) = false := by rw [beq_eq_false_iff_ne]; omega
        have q13 : ((s[k].toNat : Int) != 13) = true := by rw [bne, beq_eq_false_iff_ne.2 (by omega)]; rfl
        have q10 : ((s[k].toNat : Int) != 10) = false := by rw [bne, beq_iff_eq.2 (by omega)]; rfl
        go_wp2
        go_roundw
        case rel => exact ⟨k + 1, by omega, by go_num, by rw [hstep.out, if_pos hsp.out, List.append_nil]; exact hown, hb⟩
        case measure => simp [RowKit.intOf]; omega
      have hsp : Hid (Pu.isSpace s[k] = false) := by
        have a1 : (s[k].toNat == 32) = false := beq_eq_false_iff_ne.2 e32
        have a2 : (s[k].toNat == 9) = false := beq_eq_false_iff_ne.2 e9
        have a3 : (s[k].toNat == 13) = false := beq_eq_false_iff_ne.2 e13
        have a4 : (s[k].toNat == 10) = false := beq_eq_false_iff_ne.2 e10
        unfold Pu.isSpace
        rw [a1, a2, a3, a4]; exact rfl
      have q32 : ((s[k].toNat : Int) == 32) = false := by rw [beq_eq_false_iff_ne]; omega
      have q9 : ((s[k].toNat : Int) == 9) = false := by rw [beq_eq_false_iff_ne]; omega
      have q13 : ((s[k].toNat : Int) != 13) = true := by rw [bne, beq_eq_false_iff_ne.2 (by omega)]; rfl
      have q10 : ((s[k].toNat : Int) != 10) = true := by rw [bne, beq_eq_false_iff_ne.2 (by omega)]; rfl
      clear e32 e9 e13 e10
      generalize Pu.strip (s.data.toList.take k) = p at *
      go_wp2_with (first | (at_builtin; go_must (refine wp_app (W := W) rfl _ _ 35 rfl i0 Tryz.underlying35 hi hz0 hz1 hz2 W.heap.size u3 p rfl hown _ [s[k]] rfl 1 1 rfl rfl (by simp; omega) (Nat.le_refl _) hb ?_; intro v' w' hown' hb')) | go_in)
      go_roundw
      case rel => exact ⟨k + 1, by omega, by go_num, by rw [hstep.out, if_neg (by rw [hsp.out]; simp)]; exact hown', hb'⟩
      case measure => simp [RowKit.intOf]; omega
    · rw [List.take_of_length_le (by simp; omega)] at hown
      have hu : Hid (Pu.un64 s.data.toList = if (Pu.strip s.data.toList).length % 4 = 0 then Pu.quads (Pu.strip s.data.toList) else none) := rfl
      have hdl : (Pu.strip s.data.toList).length ≤ s.size := by
        have := Pu.strip_len s.data.toList s.size
        rw [List.take_of_length_le (by simp)] at this
        exact this
      generalize Pu.strip s.data.toList = d at *
      by_cases h4 : d.length % 4 = 0
      · rw [if_pos h4] at hu
        obtain ⟨base, cap, rfl, hd⟩ := hown.part
        have Hd := mkH hd
        clear hd
        · skip
          have hmod : ((d.length : Int) % 4 != 0) = false := by rw [bne, beq_iff_eq.2 (by omega)]; rfl
          have hbW := mkH hb
          have hmade2 := mkH (Own.made wr.heap.size wr (Nat.le_refl _))
          have hbm2 := mkH ((Below.refl wr.heap.size wr).alloc (Nat.le_refl _) (.cells #[] 5))
          go_wp2_with fail
          rename_i qq kk aa k0 a0
          clear aa kk qq
          go_loopw [5, 6] (fun v i wx => ∃ (k : Nat) (p : List UInt8), k ≤ d.length ∧ k % 4 = 0 ∧ i = .int .i64 k ∧ p.length ≤ k ∧ Hid (Pu.quads d = (Pu.quads (d.drop k)).map fun y => p ++ y) ∧ Own wr.heap.size v p wx ∧ Below wr.heap.size wr wx) (fun _ i _ => d.length - (RowKit.intOf i).toNat)
          case atStart =>
            refine ⟨0, [], Nat.zero_le _, rfl, rfl, by simp, ?_, hmade2.out, hbm2.out⟩
            show Pu.quads d = (Pu.quads d).map fun y => [] ++ y
            cases Pu.quads d <;> simp
          case round =>
            obtain ⟨k, p, hk, hk4, rfl, hpl, hp, hown2, hb2⟩ := hrel
            by_cases hlt : k < d.length
            · have hk4' : k + 4 ≤ d.length := by omega
              obtain ⟨g, rfl, hgl, hcell⟩ := Hd.out.resolve_left (by rintro rfl; simp at hlt)
              obtain ⟨a, b, c, e, c0, c1, c2, c3, hsome, hnone⟩ := round4 d k p g wr hk4' hp.out (fun j hj => (hb2.cell (p := ⟨g, j, none⟩) hgl).trans (hcell j hj))
              have hsome := mkH hsome
              have hnone := mkH hnone
              clear hp hcell
              go_wp2_with fail
              refine (specVal64 a _).mono ?_
              rintro e2 w2 ⟨rfl, rfl⟩
              go_wp2_with fail
              refine (specVal64 b _).mono ?_
              rintro e2 w2 ⟨rfl, rfl⟩
              go_wp2_with fail
              refine (specVal64 c _).mono ?_
              rintro e2 w2 ⟨rfl, rfl⟩
              go_wp2_with fail
              refine (specVal64 e _).mono ?_
              rintro e2 w2 ⟨rfl, rfl⟩
              by_cases ha : Pu.val a < 64
              · by_cases hb' : Pu.val b < 64
                · by_cases hc : Pu.val c < 64
                  · by_cases he : Pu.val e < 64
                    · have hq := hsome.out [UInt8.ofNat (Pu.val a * 4 + Pu.val b / 16), UInt8.ofNat (Pu.val b % 16 * 16 + Pu.val c / 4), UInt8.ofNat (Pu.val c % 4 * 64 + Pu.val e)] (by unfold Pu.quad; rw [if_pos ⟨ha, hb', hc, he⟩])
                      clear hsome hnone
                      have Hq := mkH hq
                      clear hq
                      have o1 := ofN (Pu.val a * 4 + Pu.val b / 16) (by omega)
                      have o2 := ofN (Pu.val b % 16 * 16 + Pu.val c / 4) (by omega)
                      have o3 := ofN (Pu.val c % 4 * 64 + Pu.val e) (by omega)
                      rw [valI_good a ha, valI_good b hb', valI_good c hc, valI_good e he]
                      go_wp2_with (at_builtin; go_must (refine wp_app (W := _) rfl _ _ 35 rfl i0 Tryz.underlying35 hi hz0 hz1 hz2 _ _ p rfl hown2 _ [UInt8.ofNat (Pu.val a * 4 + Pu.val b / 16), UInt8.ofNat (Pu.val b % 16 * 16 + Pu.val c / 4), UInt8.ofNat (Pu.val c % 4 * 64 + Pu.val e)] (bc3 _ _ _ _ _ _ (by first | omega | (rw [IntKind.wrap_u8]; omega)) (by first | omega | (rw [IntKind.wrap_u8]; omega)) (by first | omega | (rw [IntKind.wrap_u8]; omega))) 3 3 rfl rfl (by simp; omega) (Nat.le_refl _) hb2 ?_; intro v3 w3 hown3 hb3))
                      go_roundw
                      case rel => exact ⟨k + 4, _, by omega, by omega, by go_num, by simp; omega, Hq.out, hown3, hb3⟩
                      case measure => simp [RowKit.intOf]; omega
                    · have hc61 : ¬ c = 61 := by
                        intro h
                        rw [h] at hc
                        exact absurd hc (by decide)
                      have hc6 : ¬ c.toNat = 61 := fun h => hc61 (q61 c h)
                      have fc6 : ((c.toNat : Int) == 61) = false := by rw [beq_eq_false_iff_ne]; omega
                      by_cases hl : k + 4 = d.length
                      · have fhl : ((k : Int) + 4 == (d.length : Int)) = true := by rw [beq_iff_eq]; omega
                        by_cases h16 : Pu.val b % 16 = 0
                        · have fh16 : ((Pu.val b : Int) % 16 == 0) = true := by rw [beq_iff_eq]; omega
                          by_cases h4c : Pu.val c % 4 = 0
                          · have fh4c : ((Pu.val c : Int) % 4 == 0) = true := by rw [beq_iff_eq]; omega
                            by_cases he6 : e.toNat = 61
                            · have fhe6 : ((e.toNat : Int) == 61) = true := by rw [beq_iff_eq]; omega
                              have he61 := q61 e he6
                              have hq := hsome.out [UInt8.ofNat (Pu.val a * 4 + Pu.val b / 16), UInt8.ofNat (Pu.val b % 16 * 16 + Pu.val c / 4)] (by unfold Pu.quad; simp [ha, hb', hc, Pu.val61, hl, h4c, hc61, he61])
                              clear hsome hnone
                              have Hq := mkH hq
                              clear hq
                              have o1 := ofN (Pu.val a * 4 + Pu.val b / 16) (by omega)
                              have o2 := ofN (Pu.val b % 16 * 16 + Pu.val c / 4) (by omega)
                              rw [valI_good a ha, valI_good b hb', valI_good c hc, valI_bad e he]
                              go_wp2_with (at_builtin; go_must (refine wp_app (W := _) rfl _ _ 35 rfl i0 Tryz.underlying35 hi hz0 hz1 hz2 _ _ p rfl hown2 _ [UInt8.ofNat (Pu.val a * 4 + Pu.val b / 16), UInt8.ofNat (Pu.val b % 16 * 16 + Pu.val c / 4)] (bc2 _ _ _ _ (by first | omega | (rw [IntKind.wrap_u8]; omega)) (by first | omega | (rw [IntKind.wrap_u8]; omega))) 2 2 rfl rfl (by simp; omega) (Nat.le_refl _) hb2 ?_; intro v3 w3 hown3 hb3))
                              go_roundw
                              case rel => exact ⟨k + 4, _, by omega, by omega, by go_num, by simp; omega, Hq.out, hown3, hb3⟩
                              case measure => simp [RowKit.intOf]; omega
                            · have fhe6 : ((e.toNat : Int) == 61) = false := by rw [beq_eq_false_iff_ne]; omega
                              have he61 : ¬ e = 61 := fun h => he6 (by rw [h]; rfl)
                              have Hn : Hid (Pu.un64 s.data.toList = none) := hu.out.trans (hnone.out (by unfold Pu.quad; simp [ha, hb', hc, he, hl, h4c, hc61, he61]))
                              clear hsome hnone
                              obtain ⟨q0, q1, g0, g1⟩ := hroom.out.on (hbW.out.trans (hb2.mono hbs))
                              rw [valI_good a ha, valI_good b hb', valI_good c hc, valI_bad e he]
                              go_wp2
                              refine bodyPost_ret (v := bytesV none) (by simp [results, Tryz.results59, go_sem, bytesV, q0, q1]) rfl ⟨by rw [Hn.out], ?_⟩
                              have hfin : Below w.heap.size w wr := hroom.out.below.trans ((hbW.out.trans (hb2.mono hbs)).mono (by rw [hroom.out.size]; omega))
                              exact ((hfin.setCell (p := ⟨w.heap.size, 0, none⟩) (Nat.le_refl _) _).setCell (p := ⟨w.heap.size, 1, none⟩) (Nat.le_refl _) _)
                          · have fh4c : ((Pu.val c : Int) % 4 == 0) = false := by rw [beq_eq_false_iff_ne]; omega
                            have Hn : Hid (Pu.un64 s.data.toList = none) := hu.out.trans (hnone.out (by unfold Pu.quad; simp [ha, hb', hc, he, hl, h4c, hc61]))
                            clear hsome hnone
                            obtain ⟨q0, q1, g0, g1⟩ := hroom.out.on (hbW.out.trans (hb2.mono hbs))
                            rw [valI_good a ha, valI_good b hb', valI_good c hc, valI_bad e he]
                            go_wp2
                            refine bodyPost_ret (v := bytesV none) (by simp [results, Tryz.results59, go_sem, bytesV, q0, q1]) rfl ⟨by rw [Hn.out], ?_⟩
                            have hfin : Below w.heap.size w wr := hroom.out.below.trans ((hbW.out.trans (hb2.mono hbs)).mono (by rw [hroom.out.size]; omega))
                            exact ((hfin.setCell (p := ⟨w.heap.size, 0, none⟩) (Nat.le_refl _) _).setCell (p := ⟨w.heap.size, 1, none⟩) (Nat.le_refl _) _)
                        · have fh16 : ((Pu.val b : Int) % 16 == 0) = false := by rw [beq_eq_false_iff_ne]; omega
                          by_cases h4c : Pu.val c % 4 = 0
                          · have fh4c : ((Pu.val c : Int) % 4 == 0) = true := by rw [beq_iff_eq]; omega
                            by_cases he6 : e.toNat = 61
                            · have fhe6 : ((e.toNat : Int) == 61) = true := by rw [beq_iff_eq]; omega
                              have he61 := q61 e he6
                              have hq := hsome.out [UInt8.ofNat (Pu.val a * 4 + Pu.val b / 16), UInt8.ofNat (Pu.val b % 16 * 16 + Pu.val c / 4)] (by unfold Pu.quad; simp [ha, hb', hc, Pu.val61, hl, h4c, hc61, he61])
                              clear hsome hnone
                              have Hq := mkH hq
                              clear hq
                              have o1 := ofN (Pu.val a * 4 + Pu.val b / 16) (by omega)
                              have o2 := ofN (Pu.val b % 16 * 16 + Pu.val c / 4) (by omega)
                              rw [valI_good a ha, valI_good b hb', valI_good c hc, valI_bad e he]
                              go_wp2_with (at_builtin; go_must (refine wp_app (W := _) rfl _ _ 35 rfl i0 Tryz.underlying35 hi hz0 hz1 hz2 _ _ p rfl hown2 _ [UInt8.ofNat (Pu.val a * 4 + Pu.val b / 16), UInt8.ofNat (Pu.val b % 16 * 16 + Pu.val c / 4)] (bc2 _ _ _ _ (by first | omega | (rw [IntKind.wrap_u8]; omega)) (by first | omega | (rw [IntKind.wrap_u8]; omega))) 2 2 rfl rfl (by simp; omega) (Nat.le_refl _) hb2 ?_; intro v3 w3 hown3 hb3))
                              go_roundw
                              case rel => exact ⟨k + 4, _, by omega, by omega, by go_num, by simp; omega, Hq.out, hown3, hb3⟩
                              case measure => simp [RowKit.intOf]; omega
                            · have fhe6 : ((e.toNat : Int) == 61) = false := by rw [beq_eq_false_iff_ne]; omega
                              have he61 : ¬ e = 61 := fun h => he6 (by rw [h]; rfl)
                              have Hn : Hid (Pu.un64 s.data.toList = none) := hu.out.trans (hnone.out (by unfold Pu.quad; simp [ha, hb', hc, he, hl, h4c, hc61, he61]))
                              clear hsome hnone
                              obtain ⟨q0, q1, g0, g1⟩ := hroom.out.on (hbW.out.trans (hb2.mono hbs))
                              rw [valI_good a ha, valI_good b hb', valI_good c hc, valI_bad e he]
                              go_wp2
                              refine bodyPost_ret (v := bytesV none) (by simp [results, Tryz.results59, go_sem, bytesV, q0, q1]) rfl ⟨by rw [Hn.out], ?_⟩
                              have hfin : Below w.heap.size w wr := hroom.out.below.trans ((hbW.out.trans (hb2.mono hbs)).mono (by rw [hroom.out.size]; omega))
                              exact ((hfin.setCell (p := ⟨w.heap.size, 0, none⟩) (Nat.le_refl _) _).setCell (p := ⟨w.heap.size, 1, none⟩) (Nat.le_refl _) _)
                          · have fh4c : ((Pu.val c : Int) % 4 == 0) = false := by rw [beq_eq_false_iff_ne]; omega
                            have Hn : Hid (Pu.un64 s.data.toList = none) := hu.out.trans (hnone.out (by unfold Pu.quad; simp [ha, hb', hc, he, hl, h4c, hc61]))
                            clear hsome hnone
                            obtain ⟨q0, q1, g0, g1⟩ := hroom.out.on (hbW.out.trans (hb2.mono hbs))
                            rw [valI_good a ha, valI_good b hb', valI_good c hc, valI_bad e he]
                            go_wp2
                            refine bodyPost_ret (v := bytesV none) (by simp [results, Tryz.results59, go_sem, bytesV, q0, q1]) rfl ⟨by rw [Hn.out], ?_⟩
                            have hfin : Below w.heap.size w wr := hroom.out.below.trans ((hbW.out.trans (hb2.mono hbs)).mono (by rw [hroom.out.size]; omega))
                            exact ((hfin.setCell (p := ⟨w.heap.size, 0, none⟩) (Nat.le_refl _) _).setCell (p := ⟨w.heap.size, 1, none⟩) (Nat.le_refl _) _)
                      · have fhl : ((k : Int) + 4 == (d.length : Int)) = false := by rw [beq_eq_false_iff_ne]; omega
                        have Hn : Hid (Pu.un64 s.data.toList = none) := hu.out.trans (hnone.out (by unfold Pu.quad; simp [ha, hb', hc, he, hl]))
                        clear hsome hnone
                        obtain ⟨q0, q1, g0, g1⟩ := hroom.out.on (hbW.out.trans (hb2.mono hbs))
                        rw [valI_good a ha, valI_good b hb', valI_good c hc, valI_bad e he]
                        go_wp2
                        refine bodyPost_ret (v := bytesV none) (by simp [results, Tryz.results59, go_sem, bytesV, q0, q1]) rfl ⟨by rw [Hn.out], ?_⟩
                        have hfin : Below w.heap.size w wr := hroom.out.below.trans ((hbW.out.trans (hb2.mono hbs)).mono (by rw [hroom.out.size]; omega))
                        exact ((hfin.setCell (p := ⟨w.heap.size, 0, none⟩) (Nat.le_refl _) _).setCell (p := ⟨w.heap.size, 1, none⟩) (Nat.le_refl _) _)
                  · by_cases hl : k + 4 = d.length
                    · have fhl : ((k : Int) + 4 == (d.length : Int)) = true := by rw [beq_iff_eq]; omega
                      by_cases h16 : Pu.val b % 16 = 0
                      · have fh16 : ((Pu.val b : Int) % 16 == 0) = true := by rw [beq_iff_eq]; omega
                        by_cases hc6 : c.toNat = 61
                        · have fhc6 : ((c.toNat : Int) == 61) = true := by rw [beq_iff_eq]; omega
                          have hc61 := q61 c hc6
                          by_cases he6 : e.toNat = 61
                          · have fhe6 : ((e.toNat : Int) == 61) = true := by rw [beq_iff_eq]; omega
                            have he61 := q61 e he6
                            have hq := hsome.out [UInt8.ofNat (Pu.val a * 4 + Pu.val b / 16)] (by unfold Pu.quad; simp [ha, hb', Pu.val61, hl, h16, hc61, he61])
                            clear hsome hnone
                            have Hq := mkH hq
                            clear hq
                            have o1 := ofN (Pu.val a * 4 + Pu.val b / 16) (by omega)
                            rw [valI_good a ha, valI_good b hb', valI_bad c hc]
                            go_wp2_with (at_builtin; go_must (refine wp_app (W := _) rfl _ _ 35 rfl i0 Tryz.underlying35 hi hz0 hz1 hz2 _ _ p rfl hown2 _ [UInt8.ofNat (Pu.val a * 4 + Pu.val b / 16)] (bc1 _ _ (by first | omega | (rw [IntKind.wrap_u8]; omega))) 1 1 rfl rfl (by simp; omega) (Nat.le_refl _) hb2 ?_; intro v3 w3 hown3 hb3))
                            go_roundw
                            case rel => exact ⟨k + 4, _, by omega, by omega, by go_num, by simp; omega, Hq.out, hown3, hb3⟩
                            case measure => simp [RowKit.intOf]; omega
                          · have fhe6 : ((e.toNat : Int) == 61) = false := by rw [beq_eq_false_iff_ne]; omega
                            have he61 : ¬ e = 61 := fun h => he6 (by rw [h]; rfl)
                            have Hn : Hid (Pu.un64 s.data.toList = none) := hu.out.trans (hnone.out (by unfold Pu.quad; simp [ha, hb', Pu.val61, hl, hc61, he61]))
                            clear hsome hnone
                            obtain ⟨q0, q1, g0, g1⟩ := hroom.out.on (hbW.out.trans (hb2.mono hbs))
                            rw [valI_good a ha, valI_good b hb', valI_bad c hc]
                            go_wp2
                            refine bodyPost_ret (v := bytesV none) (by simp [results, Tryz.results59, go_sem, bytesV, q0, q1]) rfl ⟨by rw [Hn.out], ?_⟩
                            have hfin : Below w.heap.size w wr := hroom.out.below.trans ((hbW.out.trans (hb2.mono hbs)).mono (by rw [hroom.out.size]; omega))
                            exact ((hfin.setCell (p := ⟨w.heap.size, 0, none⟩) (Nat.le_refl _) _).setCell (p := ⟨w.heap.size, 1, none⟩) (Nat.le_refl _) _)
                        · have fhc6 : ((c.toNat : Int) == 61) = false := by rw [beq_eq_false_iff_ne]; omega
                          have hc61 : ¬ c = 61 := fun h => hc6 (by rw [h]; rfl)
                          have Hn : Hid (Pu.un64 s.data.toList = none) := hu.out.trans (hnone.out (by unfold Pu.quad; simp [ha, hb', hc, hl, hc61]))
                          clear hsome hnone
                          obtain ⟨q0, q1, g0, g1⟩ := hroom.out.on (hbW.out.trans (hb2.mono hbs))
                          rw [valI_good a ha, valI_good b hb', valI_bad c hc]
                          go_wp2
                          refine bodyPost_ret (v := bytesV none) (by simp [results, Tryz.results59, go_sem, bytesV, q0, q1]) rfl ⟨by rw [Hn.out], ?_⟩
                          have hfin : Below w.heap.size w wr := hroom.out.below.trans ((hbW.out.trans (hb2.mono hbs)).mono (by rw [hroom.out.size]; omega))
                          exact ((hfin.setCell (p := ⟨w.heap.size, 0, none⟩) (Nat.le_refl _) _).setCell (p := ⟨w.heap.size, 1, none⟩) (Nat.le_refl _) _)
                      · have fh16 : ((Pu.val b : Int) % 16 == 0) = false := by rw [beq_eq_false_iff_ne]; omega
                        have Hn : Hid (Pu.un64 s.data.toList = none) := hu.out.trans (hnone.out (by unfold Pu.quad; simp [ha, hb', hc, hl, h16]))
                        clear hsome hnone
                        obtain ⟨q0, q1, g0, g1⟩ := hroom.out.on (hbW.out.trans (hb2.mono hbs))
                        rw [valI_good a ha, valI_good b hb', valI_bad c hc]
                        go_wp2
                        refine bodyPost_ret (v := bytesV none) (by simp [results, Tryz.results59, go_sem, bytesV, q0, q1]) rfl ⟨by rw [Hn.out], ?_⟩
                        have hfin : Below w.heap.size w wr := hroom.out.below.trans ((hbW.out.trans (hb2.mono hbs)).mono (by rw [hroom.out.size]; omega))
                        exact ((hfin.setCell (p := ⟨w.heap.size, 0, none⟩) (Nat.le_refl _) _).setCell (p := ⟨w.heap.size, 1, none⟩) (Nat.le_refl _) _)
                    · have fhl : ((k : Int) + 4 == (d.length : Int)) = false := by rw [beq_eq_false_iff_ne]; omega
                      have Hn : Hid (Pu.un64 s.data.toList = none) := hu.out.trans (hnone.out (by unfold Pu.quad; simp [ha, hb', hc, hl]))
                      clear hsome hnone
                      obtain ⟨q0, q1, g0, g1⟩ := hroom.out.on (hbW.out.trans (hb2.mono hbs))
                      rw [valI_good a ha, valI_good b hb', valI_bad c hc]
                      go_wp2
                      refine bodyPost_ret (v := bytesV none) (by simp [results, Tryz.results59, go_sem, bytesV, q0, q1]) rfl ⟨by rw [Hn.out], ?_⟩
                      have hfin : Below w.heap.size w wr := hroom.out.below.trans ((hbW.out.trans (hb2.mono hbs)).mono (by rw [hroom.out.size]; omega))
                      exact ((hfin.setCell (p := ⟨w.heap.size, 0, none⟩) (Nat.le_refl _) _).setCell (p := ⟨w.heap.size, 1, none⟩) (Nat.le_refl _) _)
                · by_cases hl : k + 4 = d.length
                  · have fhl : ((k : Int) + 4 == (d.length : Int)) = true := by rw [beq_iff_eq]; omega
                    have Hn : Hid (Pu.un64 s.data.toList = none) := hu.out.trans (hnone.out (by unfold Pu.quad; simp [ha, hb']))
                    clear hsome hnone
                    obtain ⟨q0, q1, g0, g1⟩ := hroom.out.on (hbW.out.trans (hb2.mono hbs))
                    rw [valI_good a ha, valI_bad b hb']
                    go_wp2
                    refine bodyPost_ret (v := bytesV none) (by simp [results, Tryz.results59, go_sem, bytesV, q0, q1]) rfl ⟨by rw [Hn.out], ?_⟩
                    have hfin : Below w.heap.size w wr := hroom.out.below.trans ((hbW.out.trans (hb2.mono hbs)).mono (by rw [hroom.out.size]; omega))
                    exact ((hfin.setCell (p := ⟨w.heap.size, 0, none⟩) (Nat.le_refl _) _).setCell (p := ⟨w.heap.size, 1, none⟩) (Nat.le_refl _) _)
                  · have fhl : ((k : Int) + 4 == (d.length : Int)) = false := by rw [beq_eq_false_iff_ne]; omega
                    have Hn : Hid (Pu.un64 s.data.toList = none) := hu.out.trans (hnone.out (by unfold Pu.quad; simp [ha, hb']))
                    clear hsome hnone
                    obtain ⟨q0, q1, g0, g1⟩ := hroom.out.on (hbW.out.trans (hb2.mono hbs))
                    rw [valI_good a ha, valI_bad b hb']
                    go_wp2
                    refine bodyPost_ret (v := bytesV none) (by simp [results, Tryz.results59, go_sem, bytesV, q0, q1]) rfl ⟨by rw [Hn.out], ?_⟩
                    have hfin : Below w.heap.size w wr := hroom.out.below.trans ((hbW.out.trans (hb2.mono hbs)).mono (by rw [hroom.out.size]; omega))
                    exact ((hfin.setCell (p := ⟨w.heap.size, 0, none⟩) (Nat.le_refl _) _).setCell (p := ⟨w.heap.size, 1, none⟩) (Nat.le_refl _) _)
              · by_cases hl : k + 4 = d.length
                · have fhl : ((k : Int) + 4 == (d.length : Int)) = true := by rw [beq_iff_eq]; omega
                  have Hn : Hid (Pu.un64 s.data.toList = none) := hu.out.trans (hnone.out (by unfold Pu.quad; simp [ha]))
                  clear hsome hnone
                  obtain ⟨q0, q1, g0, g1⟩ := hroom.out.on (hbW.out.trans (hb2.mono hbs))
                  rw [valI_bad a ha]
                  go_wp2
                  refine bodyPost_ret (v := bytesV none) (by simp [results, Tryz.results59, go_sem, bytesV, q0, q1]) rfl ⟨by rw [Hn.out], ?_⟩
                  have hfin : Below w.heap.size w wr := hroom.out.below.trans ((hbW.out.trans (hb2.mono hbs)).mono (by rw [hroom.out.size]; omega))
                  exact ((hfin.setCell (p := ⟨w.heap.size, 0, none⟩) (Nat.le_refl _) _).setCell (p := ⟨w.heap.size, 1, none⟩) (Nat.le_refl _) _)
                · have fhl : ((k : Int) + 4 == (d.length : Int)) = false := by rw [beq_eq_false_iff_ne]; omega
                  have Hn : Hid (Pu.un64 s.data.toList = none) := hu.out.trans (hnone.out (by unfold Pu.quad; simp [ha]))
                  clear hsome hnone
                  obtain ⟨q0, q1, g0, g1⟩ := hroom.out.on (hbW.out.trans (hb2.mono hbs))
                  rw [valI_bad a ha]
                  go_wp2
                  refine bodyPost_ret (v := bytesV none) (by simp [results, Tryz.results59, go_sem, bytesV, q0, q1]) rfl ⟨by rw [Hn.out], ?_⟩
                  have hfin : Below w.heap.size w wr := hroom.out.below.trans ((hbW.out.trans (hb2.mono hbs)).mono (by rw [hroom.out.size]; omega))
                  exact ((hfin.setCell (p := ⟨w.heap.size, 0, none⟩) (Nat.le_refl _) _).setCell (p := ⟨w.heap.size, 1, none⟩) (Nat.le_refl _) _)
            · obtain ⟨q0, q1, g0, g1⟩ := hroom.out.on (hbW.out.trans (hb2.mono hbs))
              have Hn : Hid (Pu.un64 s.data.toList = some p) := by
                rw [hu.out, hp.out, List.drop_eq_nil_of_le (by omega), Pu.quads]
                simp [Hid]
              have hbk := hown2.back (P := Tryz.prog) 35 9 Tryz.underlying35 Tryz.underlying5 Tryz.underlying9
              clear hp
              go_wp2
              refine bodyPost_ret (v := bytesV (some p)) (by simp [results, Tryz.results59, go_sem, bytesV, q0, q1]) rfl ⟨by rw [Hn.out], ?_⟩
              have hfin : Below w.heap.size w wr := hroom.out.below.trans ((hbW.out.trans (hb2.mono hbs)).mono (by rw [hroom.out.size]; omega))
              exact ((hfin.setCell (p := ⟨w.heap.size, 0, none⟩) (Nat.le_refl _) _).setCell (p := ⟨w.heap.size, 1, none⟩) (Nat.le_refl _) _)
      · rw [if_neg h4] at hu
        obtain ⟨q0, q1, g0, g1⟩ := hroom.out.on hb
        have hmod : ((d.length : Int) % 4 != 0) = true := by rw [bne, beq_eq_false_iff_ne.2 (by omega)]; rfl
        rcases hown.form with ⟨rfl, rfl⟩ | ⟨g, cap, rfl⟩
        · simp at h4
        · skip
          go_wp2
          refine bodyPost_ret (v := bytesV none) (by simp [results, Tryz.results59, go_sem, bytesV, q0, q1]) rfl ⟨by rw [hu.out], ?_⟩
          have hfin : Below w.heap.size w wr := hroom.out.below.trans (hb.mono (by rw [hroom.out.size]; omega))
          exact ((hfin.setCell (p := ⟨w.heap.size, 0, none⟩) (Nat.le_refl _) _).setCell (p := ⟨w.heap.size, 1, none⟩) (Nat.le_refl _) _)
end Go.Proofs.YtajkahpkbeobaaaGreatDoor
