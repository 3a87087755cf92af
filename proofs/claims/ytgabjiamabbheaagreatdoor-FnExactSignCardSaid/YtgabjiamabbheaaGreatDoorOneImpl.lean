
/- Runs of blanks as one space, the program's side: a generic fold whose step is a function value. -/
import Derived.Test.YtgabjiamabbheaaGreatDoorRunsSpec
namespace Go.Proofs.YtgabjiamabbheaaGreatDoor
open Go.RowKit Go.Lib
namespace Pl
def oneSp (p : List UInt8) (c : UInt8) : List UInt8 := if blank c then (if lastSp p then p else p ++ [32]) else p ++ [c]
set_option maxRecDepth 20000 in
theorem oneSp_step (l p X : List UInt8) (k : Nat) (hk : k < l.length) (h : Hid (p ++ rn (lastSp p) (l.drop k) = X)) : Hid (oneSp p l[k] ++ rn (lastSp (oneSp p l[k])) (l.drop (k + 1)) = X) := by
  unfold oneSp
  cases hb : blank l[k]
  · rw [if_neg (by simp)]
    exact rn_byte l p X k hk hb h
  · rw [if_pos rfl]
    cases hs : lastSp p
    · rw [if_neg (by simp)]
      exact rn_space l p X k hk hb hs h
    · rw [if_pos rfl]
      exact rn_skip l p X k hk hb hs h
set_option maxRecDepth 20000 in
theorem oneSp_len (p : List UInt8) (c : UInt8) : (oneSp p c).length ≤ p.length + 1 := by
  unfold oneSp
  split
  · split <;> simp
  · simp
end Pl
set_option maxRecDepth 20000 in
set_option maxHeartbeats 1000000 in
theorem implOneSp (B : Nat) (v : Value) (p : List UInt8) (c : UInt8) (W w : World) (hp : p.length ≤ 1100000) (hown : Own B v p w) (hB : B ≤ W.heap.size) (hb : Below B W w) :
    Calls Tryz.prog 87 #[v, .int .u8 (c.toNat : Int)] w fun e w' => ∃ v', e = .returned v' ∧ Own B v' (Pl.oneSp p c) w' ∧ Below B W w' := by
  obtain ⟨i0, hi, hy0, hy1, hy2⟩ := info_parts Tryz.info5
  have h8 : c.toNat < 256 := UInt8.toNat_lt _
  have hBl := implBlank c
  unfold Pl.oneSp
  cases hbl : Pl.blank c
  · rw [hbl] at hBl
    rw [if_neg (by simp)]
    go_enter Tryz.func87, Tryz.ntmps87
    go_wp2_with fail
    refine (hBl _).mono ?_
    rintro e w2 ⟨rfl, rfl⟩
    go_wp2_with (at_builtin; go_must (refine wp_app (W := W) rfl _ _ 69 rfl i0 Tryz.underlying69 hi hy0 hy1 hy2 B v p rfl hown _ [c] rfl 1 1 rfl rfl (by simp; omega) hB hb ?_; intro v' w' hown' hb'))
    go_ret
    exact ⟨_, rfl, hown', hb'⟩
  · rw [hbl] at hBl
    rw [if_pos rfl]
    rcases hown.form with ⟨rfl, rfl⟩ | ⟨g, cap, rfl⟩
    · rw [if_neg (by simp [Pl.lastSp])]
      go_enter Tryz.func87, Tryz.ntmps87
      go_wp2_with fail
      refine (hBl _).mono ?_
      rintro e w2 ⟨rfl, rfl⟩
      go_wp2_with (at_builtin; go_must (refine wp_app (W := W) rfl _ _ 69 rfl i0 Tryz.underlying69 hi hy0 hy1 hy2 B (.slice none 0 0) [] rfl hown _ [32] rfl 1 1 rfl rfl (by simp) hB hb ?_; intro v' w' hown' hb'))
      go_ret
      exact ⟨_, rfl, hown', hb'⟩
    · by_cases h0 : p.length = 0
      · obtain rfl : p = [] := List.length_eq_zero_iff.1 h0
        rw [if_neg (by simp [Pl.lastSp])]
        clear h0
        go_enter Tryz.func87, Tryz.ntmps87
        go_wp2_with fail
        refine (hBl _).mono ?_
        rintro e w2 ⟨rfl, rfl⟩
        go_wp2_with (at_builtin; go_must (refine wp_app (W := W) rfl _ _ 69 rfl i0 Tryz.underlying69 hi hy0 hy1 hy2 B (.slice (some ⟨g, 0, none⟩) 0 cap) [] rfl hown _ [32] rfl 1 1 rfl rfl (by simp) hB hb ?_; intro v' w' hown' hb'))
        go_ret
        exact ⟨_, rfl, hown', hb'⟩
      · obtain ⟨m, hm⟩ : ∃ m, p.length = m + 1 := ⟨p.length - 1, by omega⟩
        have hml : m < p.length := by omega
        have hc := hown.cell m hml
        have hidx : (p.length : Int) - 1 = (m : Int) := by omega
        have hls : Pl.lastSp p = (p[m] == 32) := by rw [Pl.last_get p (by omega)]; simp [hm]
        cases h32 : ((p[m].toNat : Int) == 32)
        · have e32 : (p[m] == 32) = false := beq_eq_false_iff_ne.2 (Pl.byte_ne p[m] 32 _ rfl h32)
          rw [hls, e32, if_neg (by simp)]
          clear hls e32 hm
          generalize p[m] = pm at *
          go_enter Tryz.func87, Tryz.ntmps87
          go_wp2_with fail
          refine (hBl _).mono ?_
          rintro e w2 ⟨rfl, rfl⟩
          go_wp2_with (at_builtin; go_must (refine wp_app (W := W) rfl _ _ 69 rfl i0 Tryz.underlying69 hi hy0 hy1 hy2 B (.slice (some ⟨g, 0, none⟩) p.length cap) p rfl hown _ [32] rfl 1 1 rfl rfl (by simp; omega) hB hb ?_; intro v' w' hown' hb'))
          go_ret
          exact ⟨_, rfl, hown', hb'⟩
        · have e32 : (p[m] == 32) = true := beq_iff_eq.2 (Pl.byte_eq p[m] 32 _ rfl h32)
          rw [hls, e32, if_pos rfl]
          clear hls e32 hm
          generalize p[m] = pm at *
          go_enter Tryz.func87, Tryz.ntmps87
          go_wp2_with fail
          refine (hBl _).mono ?_
          rintro e w2 ⟨rfl, rfl⟩
          go_wp2
          go_ret
          exact ⟨_, rfl, hown, hb⟩
set_option maxRecDepth 20000 in
theorem entersOneSp : ∀ (args : Array Value) (w : World), (callFunc 87 args).run Tryz.prog w = .ok (.enter 87 args) w := Go.Proofs.enters_of Tryz.func87 (by kernel_rfl) rfl
set_option maxRecDepth 20000 in
set_option maxHeartbeats 1000000 in
theorem implGatherB (s : ByteArray) (w : World) (hs : s.size ≤ 100000) :
    Calls Tryz.prog 86 #[.string s, .slice none 0 0, .func (.func 87) #[] #[]] w fun e w' => ∃ v', e = .returned v' ∧ Own w.heap.size v' (Pl.rn false s.data.toList) w' ∧ Below w.heap.size w w' := by
  have hE := entersOneSp
  obtain ⟨X, hX⟩ : ∃ X, Pl.rn false s.data.toList = X := ⟨_, rfl⟩
  have HX : Hid (([] : List UInt8) ++ Pl.rn (Pl.lastSp []) (s.data.toList.drop 0) = X) := hX
  rw [hX]
  clear hX
  go_enter Tryz.func86, Tryz.ntmps86
  go_wp2
  go_loopw [1, 7, 10] (fun v _ i wr => ∃ (k : Nat) (p : List UInt8), k ≤ s.size ∧ i = .int .i64 k ∧ p.length ≤ k ∧ Hid (p ++ Pl.rn (Pl.lastSp p) (s.data.toList.drop k) = X) ∧ Own w.heap.size v p wr ∧ Below w.heap.size w wr) (fun _ _ i _ => s.size - (Lib.intOf i).toNat)
  case atStart => exact ⟨0, [], Nat.zero_le _, rfl, by simp, HX, Own.nil _ _, Below.refl _ _⟩
  case round =>
    clear HX
    obtain ⟨k, p, hk, rfl, hpl, hp, hown, hb⟩ := hrel
    by_cases hlt : k < s.size
    · have hll : k < s.data.toList.length := by simpa using hlt
      have h8 : s[k].toNat < 256 := UInt8.toNat_lt _
      have Hn : Hid (Pl.oneSp p s[k] ++ Pl.rn (Pl.lastSp (Pl.oneSp p s[k])) (s.data.toList.drop (k + 1)) = X) := Pl.oneSp_step s.data.toList p X k hll hp
      have hC := implOneSp w.heap.size u1 p s[k] w wr (by omega) hown (Nat.le_refl _) hb
      have hlen := Pl.oneSp_len p s[k]
      clear hp
      go_wp2_with fail
      refine hC.mono ?_
      rintro e w2 ⟨v2, rfl, hown2, hb2⟩
      go_wp2
      go_roundw
      case rel => exact ⟨k + 1, _, by omega, by go_num, by omega, Hn, hown2, hb2⟩
      case measure => simp [Lib.intOf]; omega
    · have hpX := Pl.rn_end s.data.toList p X k (by simp; omega) hp
      have HpX : Hid (p = X) := hpX
      clear hp hpX
      go_wp2
      go_ret
      exact ⟨_, rfl, by rw [← HpX.out]; exact hown, hb⟩
set_option maxRecDepth 20000 in
set_option maxHeartbeats 1000000 in
theorem implOneSpaced (s : ByteArray) (w : World) (hs : s.size ≤ 100000) :
    Calls Tryz.prog 59 #[.string s] w fun e w' => e = .returned (.string ⟨(Pl.rn false s.data.toList).toArray⟩) ∧ Below w.heap.size w w' := by
  have hG := implGatherB s w hs
  go_enter Tryz.func59, Tryz.ntmps59
  go_wp2_with fail
  refine hG.mono ?_
  rintro e w2 ⟨v2, rfl, hown2, hb2⟩
  have hbk := hown2.back (P := Tryz.prog) 69 9 Tryz.underlying69 Tryz.underlying5 Tryz.underlying9
  go_wp2
  go_ret
  exact ⟨rfl, hb2⟩
end Go.Proofs.YtgabjiamabbheaaGreatDoor
