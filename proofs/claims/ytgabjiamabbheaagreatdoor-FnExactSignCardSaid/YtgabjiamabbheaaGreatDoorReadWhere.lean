
/- The model's lines of a head. -/

/- The model's place of an ill line. -/
import Derived.Test.YtgabjiamabbheaaGreatDoorHeadTests
import Derived.Test.YtgabjiamabbheaaGreatDoorReadSame
namespace Go.Proofs.YtgabjiamabbheaaGreatDoor
open Go.RowKit Go.Lib
set_option maxRecDepth 20000 in
theorem b_at (s : ByteArray) (k : Nat) (h : k < s.size) : Pl.b s.data.toList k = s[k] := Pl.b_lt _ k (by simpa using h)
set_option maxRecDepth 20000 in
set_option maxHeartbeats 1000000 in
theorem specLine (s : ByteArray) (k : Nat) (w : World) (_hs : s.size ≤ 1100000) (hk : k ≤ s.size) :
    Calls Tryz.prog 31 #[.string s, .int .i64 k] w fun e w' => e = .returned (.tuple #[.int .i64 (Pl.le s.data.toList k : Nat), .int .i64 (Pl.nx s.data.toList (Pl.le s.data.toList k) : Nat)]) ∧ w = w' := by
  obtain ⟨E, hE⟩ : ∃ E, Pl.le s.data.toList k = E := ⟨_, rfl⟩
  rw [hE]
  have HE : Hid (Pl.le s.data.toList k = E) := hE
  clear hE
  go_enter Tryz.func31, Tryz.ntmps31
  go_wp2
  go_loopw [6] (fun i wr => ∃ j : Nat, j ≤ s.size ∧ i = .int .i64 j ∧ Hid (Pl.le s.data.toList j = E) ∧ wr = w) (fun i _ => s.size - (Lib.intOf i).toNat)
  case atStart => exact ⟨k, hk, rfl, HE, rfl⟩
  case round =>
    clear HE hk
    obtain ⟨k, hk, rfl, hp, rfl⟩ := hrel
    by_cases hlt : k + 1 < s.size
    · have h8 : s[k].toNat < 256 := UInt8.toNat_lt _
      have h9 : s[k + 1].toNat < 256 := UInt8.toNat_lt _
      have hll : k < s.data.toList.length := by simp; omega
      have miss : Pl.crlf s.data.toList k = false → Hid (Pl.le s.data.toList (k + 1) = E) := fun h => show _ = _ from (Pl.first_miss _ _ _ hll h).trans hp.out
      by_cases h13 : ((s[k].toNat : Int) == 13) = true
      · by_cases h10 : ((s[k + 1].toNat : Int) == 10) = true
        · have hcr : Pl.crlf s.data.toList k = true := (Pl.crlf_iff _ _).2 ⟨by simp; omega, Pl.byte_eq _ 13 _ rfl h13, Pl.byte_eq _ 10 _ rfl h10⟩
          have hE : Hid (E = k) := show _ = _ from hp.out.symm.trans (Pl.first_hit _ _ _ hcr)
          have hN : Hid (Pl.nx s.data.toList k = k + 2) := show _ = _ from by rw [Pl.nx, if_pos hll]
          clear hp miss hcr
          go_wp2
          refine bodyPost_ret (v := .tuple #[.int .i64 k, .int .i64 (k + 2)]) (by simp [results, Tryz.results31, go_sem]) rfl ⟨?_, rfl⟩
          rw [hE.out, hN.out]
          simp
        · rw [Bool.not_eq_true] at h10
          have hg := miss (by rw [Bool.eq_false_iff]; intro e; obtain ⟨_, -, e1⟩ := (Pl.crlf_iff _ _).1 e; exact Pl.byte_ne _ 10 _ rfl h10 e1)
          clear hp miss
          go_wp2
          go_roundw
          case rel => exact ⟨k + 1, by omega, by go_num, hg, trivial⟩
          case measure => simp [Lib.intOf]; omega
      · rw [Bool.not_eq_true] at h13
        have hg := miss (by rw [Bool.eq_false_iff]; intro e; obtain ⟨_, e1, -⟩ := (Pl.crlf_iff _ _).1 e; exact Pl.byte_ne _ 13 _ rfl h13 e1)
        clear hp miss
        go_wp2
        go_roundw
        case rel => exact ⟨k + 1, by omega, by go_num, hg, trivial⟩
        case measure => simp [Lib.intOf]; omega
    · have hE : Hid (E = s.size) := show _ = _ from by
        rw [← hp.out]
        exact (Pl.first_eq _ _ _ _ hk (by simp) (fun j h1 h2 => Pl.crlf_short _ _ (by simp; omega)) (fun h => by simp at h))
      have hN : Hid (Pl.nx s.data.toList s.size = s.size) := show _ = _ from by rw [Pl.nx, if_neg (by simp)]; simp
      clear hp
      go_wp2
      refine bodyPost_ret (v := .tuple #[.int .i64 s.size, .int .i64 s.size]) (by simp [results, Tryz.results31, go_sem]) rfl ⟨?_, rfl⟩
      rw [hE.out, hN.out]
end Go.Proofs.YtgabjiamabbheaaGreatDoor
namespace Go.Proofs.YtgabjiamabbheaaGreatDoor
open Go.RowKit Go.Lib
set_option maxRecDepth 20000 in
set_option maxHeartbeats 1000000 in
theorem whereName (s n : ByteArray) (B e c f : Nat) (w : World) (hn : n.size ≤ 1100000) (_hB : B ≤ 1100000) (_hc : c ≤ 1100000) (_hf : f ≤ 1100000) (h : f ≤ c ∨ Pl.nameOk n.data.toList = false) :
    Calls Tryz.prog 35 #[.string s, .int .i64 B, .int .i64 e, .int .i64 c, .int .i64 f, .string n] w fun x w' => x = .returned (.int .i64 B) ∧ w = w' := by
  by_cases hfc : f ≤ c
  · clear h
    go_enter Tryz.func35, Tryz.ntmps35
    go_wp2
    go_ret
    exact ⟨rfl, rfl⟩
  · have hN := h.resolve_left hfc
    have hcn := fun w => specName n w hn
    simp only [hN] at hcn
    clear h hN
    go_enter Tryz.func35, Tryz.ntmps35
    go_wp2_with (go_at_call 33; go_must (refine (hcn _).mono ?_; rintro x w2 ⟨rfl, rfl⟩))
    go_ret
    exact ⟨rfl, rfl⟩
set_option maxHeartbeats 2000000 in
set_option maxRecDepth 8000 in
theorem whereLine (s n : ByteArray) (B e c f : Nat) (w : World) (hs : s.size ≤ 1100000) (hn : n.size ≤ 1100000) (hBc : B ≤ c) (hce : c + 1 ≤ e) (hes : e ≤ s.size) (hf : f ≤ 1100000) (hcf : c < f) (hN : Pl.nameOk n.data.toList = true) :
    Calls Tryz.prog 35 #[.string s, .int .i64 B, .int .i64 e, .int .i64 c, .int .i64 f, .string n] w fun x w' => x = .returned (.int .i64 (Pl.whr s.data.toList e B (s.data.toList.length + 1) B (c + 1) : Nat)) ∧ w = w' := by
  have hcn := fun w => specName n w hn
  simp only [hN] at hcn
  obtain ⟨R, hR⟩ : ∃ R, Pl.whr s.data.toList e B (s.data.toList.length + 1) B (c + 1) = R := ⟨_, rfl⟩
  rw [hR]
  have HR : Hid (∃ g, s.size + 1 ≤ g + B ∧ Pl.whr s.data.toList e B g B (c + 1) = R) := show ∃ g, _ ∧ _ from ⟨_, by rw [Pl.len_list]; omega, hR⟩
  clear hR hN
  have hd : decide (f ≤ c) = false := by simp; omega
  have hd' : decide ((f : Int) ≤ (c : Int)) = false := by simp; omega
  go_enter Tryz.func35, Tryz.ntmps35
  go_wp2_with (go_at_call 33; go_must (refine (hcn _).mono ?_; rintro x w2 ⟨rfl, rfl⟩))
  go_loopw [13, 14, 15, 16, 17] (fun a fr _ _ _ wr => ∃ (k r : Nat), k ≤ s.size ∧ r ≤ s.size ∧ a = .int .i64 k ∧ fr = .int .i64 r ∧ Hid (∃ g, s.size + 1 ≤ g + k ∧ Pl.whr s.data.toList e B g k r = R) ∧ wr = w) (fun a _ _ _ _ _ => s.size - (Lib.intOf a).toNat)
  case atStart => exact ⟨B, c + 1, by omega, by omega, rfl, by go_num, HR, rfl⟩
  case round =>
    clear HR hcn
    obtain ⟨k, r, hk, hr, rfl, rfl, hg, rfl⟩ := hrel
    by_cases hke : k < e
    · have hln := fun w => specLine s k w hs hk
      have hle0 := Pl.first_ge (Pl.crlf s.data.toList) s.data.toList.length k (by simpa using hk)
      have hle1 := Pl.first_le (Pl.crlf s.data.toList) s.data.toList.length k (by simpa using hk)
      have Hnx : Hid (Pl.nx s.data.toList (Pl.le s.data.toList k) = if Pl.le s.data.toList k < s.size then Pl.le s.data.toList k + 2 else s.size) := show _ = _ from by rw [Pl.nx, Pl.len_list]
      have Hst : Hid (∃ g, s.size + 1 ≤ g + 1 + k ∧ (if Pl.first (fun j => !Pl.lb (Pl.b s.data.toList j)) (min (Pl.le s.data.toList k) e) r < min (Pl.le s.data.toList k) e then k else Pl.whr s.data.toList e B g (Pl.nx s.data.toList (Pl.le s.data.toList k)) (Pl.nx s.data.toList (Pl.le s.data.toList k))) = R) := show ∃ g, _ ∧ _ from by
        obtain ⟨g, h1, h2⟩ := hg.out
        obtain ⟨g', rfl⟩ : ∃ g', g = g' + 1 := ⟨g - 1, by omega⟩
        rw [Pl.whr, if_pos hke] at h2
        exact ⟨g', h1, h2⟩
      have Hcr : Hid (Pl.le s.data.toList k < s.size → Pl.le s.data.toList k + 2 ≤ s.size) := show _ → _ from fun h => by
        have := (Pl.crlf_b _ _ (Pl.first_is (Pl.crlf s.data.toList) s.data.toList.length k (by simpa using hk) (by show Pl.le s.data.toList k < _; rw [Pl.len_list]; exact h))).2.2
        simp at this
        exact this
      change k ≤ Pl.le s.data.toList k at hle0
      change Pl.le s.data.toList k ≤ _ at hle1
      rw [Pl.len_list] at hle1
      clear hg
      generalize Pl.nx s.data.toList (Pl.le s.data.toList k) = N at hln Hnx Hst
      generalize Pl.le s.data.toList k = E at hln Hnx Hst Hcr hle0 hle1
      have hN0 : k < N := by have := Hnx.out; split at this <;> omega
      have hN1 : N ≤ s.size := by have a := Hnx.out; have c := Hcr.out; split at a <;> omega
      obtain ⟨M, hM⟩ : ∃ M, M = min E e := ⟨_, rfl⟩
      have hMe : M ≤ e := by omega
      have HM : Hid (M = min E e) := hM
      rw [← hM] at Hst
      clear Hnx Hcr
      by_cases hEe : e < E
      · have hMv : e = M := by omega
        clear hM
        subst hMv
        go_wp2_with (go_at_call 31; go_must (refine (hln _).mono ?_; rintro x w2 ⟨rfl, rfl⟩))
        go_loopw [17] (fun i wx => ∃ j : Nat, j ≤ s.size ∧ r ≤ j ∧ i = .int .i64 j ∧ Hid (Pl.first (fun j => !Pl.lb (Pl.b s.data.toList j)) e r = Pl.first (fun j => !Pl.lb (Pl.b s.data.toList j)) e j) ∧ wx = wr) (fun i _ => s.size - (Lib.intOf i).toNat)
        case atStart => exact ⟨r, hr, Nat.le_refl _, rfl, rfl, rfl⟩
        case round =>
          obtain ⟨j, hj, hrj, rfl, hp, rfl⟩ := hrel
          by_cases hlt : j < e
          · have h8 : s[j].toNat < 256 := UInt8.toNat_lt _
            have hbj := b_at s j (by omega)
            cases h13 : ((s[j].toNat : Int) == 13)
            · cases h10 : ((s[j].toNat : Int) == 10)
              · have hlb : Pl.lb s[j] = true := by simp [Pl.lb, Pl.byte_ne _ 13 _ rfl h13, Pl.byte_ne _ 10 _ rfl h10]
                have hg : Hid (Pl.first (fun j => !Pl.lb (Pl.b s.data.toList j)) e r = Pl.first (fun j => !Pl.lb (Pl.b s.data.toList j)) e (j + 1)) := show _ = _ from hp.out.trans (Pl.first_miss _ _ _ hlt (by rw [hbj, hlb]; rfl)).symm
                clear hp hlb hbj
                go_wp2
                go_roundw
                case rel => exact ⟨j + 1, by omega, by omega, by go_num, hg, trivial⟩
                case measure => simp [Lib.intOf]; omega
              · have hE : Hid (R = k) := show _ = _ from by
                  obtain ⟨g, -, h2⟩ := Hst.out
                  rw [hp.out, Pl.first_hit _ _ _ (by rw [hbj, Pl.byte_eq _ 10 _ rfl h10]; rfl), if_pos hlt] at h2
                  exact h2.symm
                clear hp hbj
                go_wp2
                go_ret
                rw [hE.out]
                exact ⟨rfl, rfl⟩
            · have hE : Hid (R = k) := show _ = _ from by
                obtain ⟨g, -, h2⟩ := Hst.out
                rw [hp.out, Pl.first_hit _ _ _ (by rw [hbj, Pl.byte_eq _ 13 _ rfl h13]; rfl), if_pos hlt] at h2
                exact h2.symm
              clear hp hbj
              go_wp2
              go_ret
              rw [hE.out]
              exact ⟨rfl, rfl⟩
          · have hE : Hid (∃ g, s.size + 1 ≤ g + N ∧ Pl.whr s.data.toList e B g N N = R) := show ∃ g, _ ∧ _ from by
              obtain ⟨g, h1, h2⟩ := Hst.out
              rw [hp.out, Pl.first_end _ _ _ (by omega), if_neg hlt] at h2
              exact ⟨g, by omega, h2⟩
            clear hp
            go_wp2
            go_roundw
            case rel => exact ⟨N, N, by omega, by omega, rfl, rfl, hE, trivial⟩
            case measure => simp [Lib.intOf]; omega
      · have hMv : E = M := by omega
        clear hM
        subst hMv
        go_wp2_with (go_at_call 31; go_must (refine (hln _).mono ?_; rintro x w2 ⟨rfl, rfl⟩))
        go_loopw [17] (fun i wx => ∃ j : Nat, j ≤ s.size ∧ r ≤ j ∧ i = .int .i64 j ∧ Hid (Pl.first (fun j => !Pl.lb (Pl.b s.data.toList j)) E r = Pl.first (fun j => !Pl.lb (Pl.b s.data.toList j)) E j) ∧ wx = wr) (fun i _ => s.size - (Lib.intOf i).toNat)
        case atStart => exact ⟨r, hr, Nat.le_refl _, rfl, rfl, rfl⟩
        case round =>
          obtain ⟨j, hj, hrj, rfl, hp, rfl⟩ := hrel
          by_cases hlt : j < E
          · have h8 : s[j].toNat < 256 := UInt8.toNat_lt _
            have hbj := b_at s j (by omega)
            cases h13 : ((s[j].toNat : Int) == 13)
            · cases h10 : ((s[j].toNat : Int) == 10)
              · have hlb : Pl.lb s[j] = true := by simp [Pl.lb, Pl.byte_ne _ 13 _ rfl h13, Pl.byte_ne _ 10 _ rfl h10]
                have hg : Hid (Pl.first (fun j => !Pl.lb (Pl.b s.data.toList j)) E r = Pl.first (fun j => !Pl.lb (Pl.b s.data.toList j)) E (j + 1)) := show _ = _ from hp.out.trans (Pl.first_miss _ _ _ hlt (by rw [hbj, hlb]; rfl)).symm
                clear hp hlb hbj
                go_wp2
                go_roundw
                case rel => exact ⟨j + 1, by omega, by omega, by go_num, hg, trivial⟩
                case measure => simp [Lib.intOf]; omega
              · have hE : Hid (R = k) := show _ = _ from by
                  obtain ⟨g, -, h2⟩ := Hst.out
                  rw [hp.out, Pl.first_hit _ _ _ (by rw [hbj, Pl.byte_eq _ 10 _ rfl h10]; rfl), if_pos hlt] at h2
                  exact h2.symm
                clear hp hbj
                go_wp2
                go_ret
                rw [hE.out]
                exact ⟨rfl, rfl⟩
            · have hE : Hid (R = k) := show _ = _ from by
                obtain ⟨g, -, h2⟩ := Hst.out
                rw [hp.out, Pl.first_hit _ _ _ (by rw [hbj, Pl.byte_eq _ 13 _ rfl h13]; rfl), if_pos hlt] at h2
                exact h2.symm
              clear hp hbj
              go_wp2
              go_ret
              rw [hE.out]
              exact ⟨rfl, rfl⟩
          · have hE : Hid (∃ g, s.size + 1 ≤ g + N ∧ Pl.whr s.data.toList e B g N N = R) := show ∃ g, _ ∧ _ from by
              obtain ⟨g, h1, h2⟩ := Hst.out
              rw [hp.out, Pl.first_end _ _ _ (by omega), if_neg hlt] at h2
              exact ⟨g, by omega, h2⟩
            clear hp
            go_wp2
            go_roundw
            case rel => exact ⟨N, N, by omega, by omega, rfl, rfl, hE, trivial⟩
            case measure => simp [Lib.intOf]; omega
    · have hE : Hid (R = B) := show _ = _ from by
        obtain ⟨g, h1, h2⟩ := hg.out
        obtain ⟨g', rfl⟩ : ∃ g', g = g' + 1 := ⟨g - 1, by omega⟩
        rw [Pl.whr, if_neg hke] at h2
        exact h2.symm
      clear hg
      go_wp2
      go_ret
      rw [hE.out]
      exact ⟨rfl, rfl⟩
end Go.Proofs.YtgabjiamabbheaaGreatDoor
