
/- CanonBody, the specification's side. -/
import Derived.Test.YtgabjiamabbheaaGreatDoorLinesBoth
import Derived.Test.YtgabjiamabbheaaGreatDoorRunsSpec
import Derived.Test.YtgabjiamabbheaaGreatDoorCanonFieldSpec
namespace Go.Proofs.YtgabjiamabbheaaGreatDoor
open Go.RowKit Go.Lib
namespace Pl
def dt (ls : List (List UInt8)) : List (List UInt8) := (ls.reverse.dropWhile (fun l => l.isEmpty)).reverse
def ends (ls : List (List UInt8)) : List UInt8 := ls.flatMap fun l => l ++ [13, 10]
set_option maxRecDepth 20000 in
theorem dt_step (ls : List (List UInt8)) (k : Nat) (hk : k < ls.length) (h : ls[k].isEmpty = true) : dt (ls.take k) = dt (ls.take (k + 1)) := by
  unfold dt
  rw [List.take_succ_eq_append_getElem hk, List.reverse_append, List.reverse_singleton, List.singleton_append, List.dropWhile_cons, if_pos h]
set_option maxRecDepth 20000 in
theorem dt_stop (ls : List (List UInt8)) (k : Nat) (hk : k < ls.length) (h : ls[k].isEmpty = false) : dt (ls.take (k + 1)) = ls.take (k + 1) := by
  unfold dt
  rw [List.take_succ_eq_append_getElem hk, List.reverse_append, List.reverse_singleton, List.singleton_append, List.dropWhile_cons, if_neg (by rw [h]; simp), List.reverse_cons, List.reverse_reverse]
set_option maxRecDepth 20000 in
theorem ends_step (ms : List (List UInt8)) (p X : List UInt8) (j : Nat) (hj : j < ms.length) (h : Hid (p ++ ends (ms.drop j) = X)) : Hid ((p ++ ms[j] ++ [13, 10]) ++ ends (ms.drop (j + 1)) = X) := by
  have h := h.out
  rw [List.drop_eq_getElem_cons hj] at h
  show _ = _
  rw [← h]
  unfold ends
  rw [List.flatMap_cons]
  simp
set_option maxRecDepth 20000 in
theorem lines_count : ∀ (n : Nat) (l : List UInt8), l.length ≤ n → (lines l).length ≤ l.length ∧ ∀ x ∈ lines l, x.length ≤ n
  | 0, l, h => by
    obtain rfl : l = [] := List.length_eq_zero_iff.1 (by omega)
    rw [lines_nil]
    exact ⟨by simp, fun x hx => absurd hx (List.not_mem_nil)⟩
  | n + 1, l, h => by
    by_cases hl : l = []
    · subst hl
      rw [lines_nil]
      exact ⟨by simp, fun x hx => absurd hx (List.not_mem_nil)⟩
    · have h1 := cut_rest l hl
      have h2 := cut_fst l
      obtain ⟨a, b⟩ := lines_count n (cut l crs).2.1 (by omega)
      rw [lines_step l hl]
      refine ⟨by rw [List.length_cons]; omega, ?_⟩
      intro x hx
      rcases List.mem_cons.1 hx with rfl | hx
      · omega
      · have := b x hx; omega
end Pl
def bodyL (s : ByteArray) (x : Int) : List (List UInt8) := Pl.dt (if x = 1 then (Pl.lines s.data.toList).map Pl.runs else Pl.lines s.data.toList)
def canonB (s : ByteArray) (x : Int) : List UInt8 := if bodyL s x = [] ∧ x = 0 then [13, 10] else Pl.ends (bodyL s x)
set_option maxRecDepth 20000 in
theorem OwnS.stored {B g cap n : Nat} {ps : List (List UInt8)} {w : World} (h : OwnS B (.slice (some ⟨g, 0, none⟩) n cap) ps w) (hn : n = ps.length) (j : Nat) (c : List UInt8) :
    OwnS B (.slice (some ⟨g, 0, none⟩) n cap) (ps.set j c) (w.setCell ⟨g, j, none⟩ (txtL c)) := by
  subst hn
  have := (World.ownsRow.stored h j (txtL c)).1
  unfold OwnS
  rw [List.length_set, List.map_set]
  exact this
set_option maxRecDepth 20000 in
theorem OwnS.free {B g cap n : Nat} {ps : List (List UInt8)} {w : World} (h : OwnS B (.slice (some ⟨g, 0, none⟩) n cap) ps w) (j : Nat) : w.frozen? ⟨g, j, none⟩ = false := by
  rcases h.2 with ⟨h2, -⟩ | ⟨g', cap', cur, e1, e2, e3, -⟩
  · cases h2
  · cases e1
    simp [World.frozen?, e3]
set_option maxRecDepth 20000 in
theorem mid_get (ls : List (List UInt8)) (k : Nat) (hk : k < ls.length) : ((ls.take k).map Pl.runs ++ ls.drop k)[k]'(by simp; omega) = ls[k] := by
  rw [List.getElem_append_right (by simp; omega)]
  simp [List.getElem_drop, Nat.min_eq_left (Nat.le_of_lt hk)]
set_option maxRecDepth 20000 in
theorem mid_set (ls : List (List UInt8)) (k : Nat) (hk : k < ls.length) : ((ls.take k).map Pl.runs ++ ls.drop k).set k (Pl.runs ls[k]) = (ls.take (k + 1)).map Pl.runs ++ ls.drop (k + 1) := by
  have hl : ((ls.take k).map Pl.runs).length = k := by simp; omega
  rw [List.set_append, if_neg (by omega), hl, Nat.sub_self, List.drop_eq_getElem_cons hk, List.set_cons_zero, List.take_succ_eq_append_getElem hk, List.map_append, List.map_singleton, List.append_assoc, List.singleton_append]
set_option maxRecDepth 10000 in
set_option maxHeartbeats 4000000 in
theorem specCanonBody0 (s : ByteArray) (w : World) (hs : s.size ≤ 100000) :
    Calls Tryz.prog 15 #[.string s, .int .i64 0] w fun e w' => e = .returned (.string ⟨(canonB s 0).toArray⟩) ∧ Below w.heap.size w w' := by
  obtain ⟨i0, hi, hy0, hy1, hy2⟩ := info_parts Tryz.info5
  have hL := specLines s w hs
  obtain ⟨R, hR⟩ : ∃ R, canonB s 0 = R := ⟨_, rfl⟩
  obtain ⟨hcount, hmem⟩ := Pl.lines_count 100000 s.data.toList (by rw [Pl.len_list]; exact hs)
  rw [Pl.len_list] at hcount
  obtain ⟨ls, hls⟩ : ∃ ls, Pl.lines s.data.toList = ls := ⟨_, rfl⟩
  obtain ⟨D, hD⟩ : ∃ D, Pl.dt ls = D := ⟨_, rfl⟩
  have hB : bodyL s 0 = D := by unfold bodyL; rw [if_neg (by decide), hls, hD]
  have HRne : Hid (¬ D = [] → Pl.ends D = R) := show _ → _ from fun h => by rw [← hR, canonB, hB, if_neg (fun e => h e.1)]
  have HRnil : Hid (D = [] → ([13, 10] : List UInt8) = R) := show _ → _ from fun h => by rw [← hR, canonB, hB, if_pos ⟨h, rfl⟩]
  rw [hR]
  rw [hls] at hL hcount hmem
  have Hmem : Hid (∀ x ∈ ls, x.length ≤ 100000) := hmem
  have Hd : Hid (Pl.dt ls = D) := hD
  clear hls hmem hR hB hD
  obtain ⟨L, hLen⟩ : ∃ L, ls.length = L := ⟨_, rfl⟩
  rw [hLen] at hcount
  go_enter Tryz.func15, Tryz.ntmps15
  go_wp2_with fail
  refine hL.mono ?_
  rintro e w1 ⟨v1, rfl, hown1, hb1⟩
  rcases hown1.form with ⟨rfl, hnil⟩ | ⟨g, cap, rfl, hg, hgl⟩
  · skip
    have hDn : D = [] := by rw [← Hd.out, hnil]; rfl
    have HRz2 : Hid (([13, 10] : List UInt8) = R) := HRnil.out hDn
    have hbz : Hid (Below w.heap.size w (w1.alloc (.cells #[] 5))) := hb1.alloc hb1.size _
    have hbk : (convert 69 9 (.slice (some ⟨w1.heap.size, 0, none⟩) 0 0)).run Tryz.prog (w1.alloc (.cells #[] 5)) = .ok (.string ⟨([] : List UInt8).toArray⟩) (w1.alloc (.cells #[] 5)) := (Own.made w1.heap.size w1 (Nat.le_refl _)).back (P := Tryz.prog) 69 9 Tryz.underlying69 Tryz.underlying5 Tryz.underlying9
    clear hDn hL hown1 hb1 hnil HRnil HRne
    go_wp2
    go_loopw [7] (fun n wr => n = .int .i64 0 ∧ wr = w1) (fun _ _ => 0)
    case atStart => exact ⟨rfl, rfl⟩
    case round =>
      obtain ⟨rfl, rfl⟩ := hrel
      obtain ⟨V, hV⟩ : ∃ V, V = wr := ⟨_, rfl⟩
      subst hV
      go_wp2
      go_loopw [8, 9] (fun u i wr => i = .int .i64 0 ∧ u = .slice (some ⟨V.heap.size, 0, none⟩) 0 0 ∧ wr = V.alloc (.cells #[] 5)) (fun _ _ _ => 0)
      case atStart => exact ⟨rfl, rfl, rfl⟩
      case round =>
        obtain ⟨rfl, rfl, rfl⟩ := hrel
        go_wp2
        go_ret
        exact ⟨by rw [← HRz2.out]; rfl, hbz.out⟩
  · rw [hLen] at hown1 ⊢
    have Hown : Hid (OwnS w.heap.size (.slice (some ⟨g, 0, none⟩) L cap) ls w1) := hown1
    have Hb1 : Hid (Below w.heap.size w w1) := hb1
    clear hL hown1 hb1
    go_wp2
    go_loopw [7] (fun n wr => ∃ k : Nat, k ≤ L ∧ n = .int .i64 k ∧ Hid (Pl.dt (ls.take k) = D) ∧ wr = w1) (fun n _ => (Lib.intOf n).toNat)
    case atStart => exact ⟨L, Nat.le_refl _, rfl, (by show _ = _; rw [List.take_of_length_le (by omega)]; exact Hd.out), rfl⟩
    case round =>
      obtain ⟨k, hk, rfl, hp, rfl⟩ := hrel
      by_cases h0 : 0 < k
      · obtain ⟨j, hkj⟩ : ∃ j, k = j + 1 := ⟨k - 1, by omega⟩
        have hj : j < ls.length := by omega
        have hc : wr.cell? ⟨g, j, none⟩ = some (.string ⟨ls[j].toArray⟩) := OwnS.cell Hown.out j hj
        have hidx : (k : Int) - 1 = (j : Int) := by omega
        have hjL : j < L := by omega
        have hjk : j < k ∧ k ≤ j + 1 := by omega
        rw [hkj] at hp
        have HKJ : Hid (k = j + 1) := hkj
        clear hkj
        cases he : ls[j].isEmpty
        · have HD : Hid (ls.take (j + 1) = D) := by
            show _ = _
            rw [← hp.out, Pl.dt_stop ls j hj he]
          rw [← HKJ.out] at HD
          have HX : Hid (([] : List UInt8) ++ Pl.ends ((ls.take k).drop 0) = R) := by
            show _ = _
            have hne : ¬ (D = []) := by
              rw [← HD.out]
              intro e
              have hl := congrArg List.length e
              rw [List.length_take, List.length_nil] at hl
              omega
            rw [List.drop_zero, HD.out, List.nil_append]
            exact HRne.out hne
          have het : (⟨ls[j].toArray⟩ : ByteArray).toList.isEmpty = false := by rw [ByteArray.toList_eq]; exact he
          clear hp he HD
          generalize (⟨ls[j].toArray⟩ : ByteArray) = tj at hc het
          obtain ⟨V, hV⟩ : ∃ V, V = wr := ⟨_, rfl⟩
          subst hV
          go_wp2
          go_loopw [8, 9] (fun u i wr => ∃ (m : Nat) (p : List UInt8), m ≤ k ∧ i = .int .i64 m ∧ p.length ≤ 100002 * m ∧ Hid (p ++ Pl.ends ((ls.take k).drop m) = R) ∧ Hid (Own V.heap.size u p wr) ∧ Hid (Below V.heap.size V wr)) (fun _ i _ => k - (Lib.intOf i).toNat)
          case atStart => exact ⟨0, [], Nat.zero_le _, rfl, by simp, HX, Own.made V.heap.size V (Nat.le_refl _), (Below.refl _ _).alloc (Nat.le_refl _) _⟩
          case round =>
            clear HX
            obtain ⟨m, p, hm, rfl, hpl, HX, HO, HB⟩ := hrel
            by_cases hmj : m < k
            · have hml : m < (ls.take k).length := by rw [List.length_take]; omega
              have hel : (ls.take k)[m] = ls[m]'(by omega) := List.getElem_take
              have HX2 := Pl.ends_step (ls.take k) p R m hml HX
              rw [hel] at HX2
              have hcm : wr.cell? ⟨g, m, none⟩ = some (.string ⟨(ls[m]'(by omega)).toArray⟩) := (HB.out.cell (World.block_lt_of_cell? _ _ (OwnS.cell Hown.out m (by omega)))).trans (OwnS.cell Hown.out m (by omega))
              have hsz : (ls[m]'(by omega)).length ≤ 100000 := Hmem.out _ (List.getElem_mem _)
              have hsz2 : (⟨(ls[m]'(by omega)).toArray⟩ : ByteArray).size ≤ 100000 := by show (ls[m]'(by omega)).toArray.size ≤ _; rw [List.size_toArray]; exact hsz
              have HD2 : Hid ((⟨(ls[m]'(by omega)).toArray⟩ : ByteArray).data.toList = ls[m]'(by omega)) := show _ = _ from rfl
              have hown2 := HO.out
              clear HX hel
              generalize (⟨(ls[m]'(by omega)).toArray⟩ : ByteArray) = tm at *
              generalize ls[m]'(by omega) = lm at HX2 HD2 hsz
              go_wp2_with (at_builtin; go_must (first
                | (refine wp_app (W := V) rfl _ _ 69 rfl i0 Tryz.underlying69 hi hy0 hy1 hy2 V.heap.size v' (p ++ tm.data.toList) rfl hown' _ [13, 10] rfl 2 2 rfl rfl (by simp; omega) (Nat.le_refl _) hb' ?_; intro v3 w3 hown3 hb3)
                | (refine wp_apps (W := V) rfl _ _ 69 9 rfl i0 Tryz.underlying69 Tryz.underlying9 hi hy0 hy1 hy2 V.heap.size u8 p rfl hown2 tm rfl (by omega) (Nat.le_refl _) HB.out ?_; intro v' w' hown' hb')))
              rw [HD2.out] at hown3
              go_roundw
              case rel => exact ⟨m + 1, _, by omega, by go_num, (by simp; omega), HX2, hown3, hb3⟩
              case measure => simp [Lib.intOf]; omega
            · have hpR : p = R := by
                rw [← HX.out, List.drop_eq_nil_of_le (by rw [List.length_take]; omega)]
                simp [Pl.ends]
              have HpR : Hid (p = R) := hpR
              have hbk := HO.out.back (P := Tryz.prog) 69 9 Tryz.underlying69 Tryz.underlying5 Tryz.underlying9
              have hn0 : ((k : Int) == 0) = false := beq_eq_false_iff_ne.2 (by omega)
              have hbe := Hb1.out.trans (HB.out.mono Hb1.out.size)
              clear HX hpR HB HO
              go_wp2
              go_ret
              exact ⟨by rw [← HpR.out]; rfl, hbe⟩
        · have HN : Hid (Pl.dt (ls.take j) = D) := by
            show _ = _
            rw [Pl.dt_step ls j hj he]; exact hp.out
          have het : (⟨ls[j].toArray⟩ : ByteArray).toList.isEmpty = true := by rw [ByteArray.toList_eq]; exact he
          clear hp he
          generalize (⟨ls[j].toArray⟩ : ByteArray) = tj at hc het
          go_wp2
          go_roundw
          case rel => exact ⟨j, by omega, by go_num, HN, trivial⟩
          case measure => simp [Lib.intOf]; omega
      · obtain rfl : k = 0 := by omega
        have HZ : Hid (D = []) := by
          show _ = _
          rw [← hp.out, List.take_zero]; rfl
        have HRz := HRnil.out HZ.out
        have HRz2 : Hid (([13, 10] : List UInt8) = R) := HRz
        have hbz : Hid (Below w.heap.size w (wr.alloc (.cells #[] 5))) := Hb1.out.alloc Hb1.out.size _
        have hbk : (convert 69 9 (.slice (some ⟨wr.heap.size, 0, none⟩) 0 0)).run Tryz.prog (wr.alloc (.cells #[] 5)) = .ok (.string ⟨([] : List UInt8).toArray⟩) (wr.alloc (.cells #[] 5)) := (Own.made wr.heap.size wr (Nat.le_refl _)).back (P := Tryz.prog) 69 9 Tryz.underlying69 Tryz.underlying5 Tryz.underlying9
        clear hp HZ HRz h0
        obtain ⟨V, hV⟩ : ∃ V, V = wr := ⟨_, rfl⟩
        subst hV
        go_wp2
        go_loopw [8, 9] (fun u i wr => i = .int .i64 0 ∧ u = .slice (some ⟨V.heap.size, 0, none⟩) 0 0 ∧ wr = V.alloc (.cells #[] 5)) (fun _ _ _ => 0)
        case atStart => exact ⟨rfl, rfl, rfl⟩
        case round =>
          obtain ⟨rfl, rfl, rfl⟩ := hrel
          go_wp2
          go_ret
          exact ⟨by rw [← HRz2.out]; rfl, hbz.out⟩
set_option maxRecDepth 10000 in
set_option maxHeartbeats 4000000 in
theorem specCanonBody1 (s : ByteArray) (w : World) (hs : s.size ≤ 100000) :
    Calls Tryz.prog 15 #[.string s, .int .i64 1] w fun e w' => e = .returned (.string ⟨(canonB s 1).toArray⟩) ∧ Below w.heap.size w w' := by
  obtain ⟨i0, hi, hy0, hy1, hy2⟩ := info_parts Tryz.info5
  have hL := specLines s w hs
  obtain ⟨R, hR⟩ : ∃ R, canonB s 1 = R := ⟨_, rfl⟩
  obtain ⟨hcount, hmem⟩ := Pl.lines_count 100000 s.data.toList (by rw [Pl.len_list]; exact hs)
  rw [Pl.len_list] at hcount
  obtain ⟨l0, hls⟩ : ∃ ls, Pl.lines s.data.toList = ls := ⟨_, rfl⟩
  obtain ⟨ls, hlm⟩ : ∃ ls, l0.map Pl.runs = ls := ⟨_, rfl⟩
  obtain ⟨D, hD⟩ : ∃ D, Pl.dt ls = D := ⟨_, rfl⟩
  have hB : bodyL s 1 = D := by unfold bodyL; rw [if_pos rfl, hls, hlm, hD]
  have HRne : Hid (¬ D = [] → Pl.ends D = R) := show _ → _ from fun h => by rw [← hR, canonB, hB, if_neg (fun e => h e.1)]
  have HRnil : Hid (D = [] → ([] : List UInt8) = R) := show _ → _ from fun h => by rw [← hR, canonB, hB, if_neg (fun e => by have := e.2; omega), h]; rfl
  rw [hR]
  rw [hls] at hL hcount hmem
  have Hmem0 : Hid (∀ x ∈ l0, x.length ≤ 100000) := hmem
  have Hmem : Hid (∀ x ∈ ls, x.length ≤ 100000) := by
    intro x hx
    rw [← hlm] at hx
    obtain ⟨y, hy, rfl⟩ := List.mem_map.1 hx
    exact Nat.le_trans (Pl.runs_len y) (hmem y hy)
  have Hd : Hid (Pl.dt ls = D) := hD
  have Hlm : Hid (l0.map Pl.runs = ls) := hlm
  clear hls hmem hR hB hD hlm
  obtain ⟨L, hLen0⟩ : ∃ L, l0.length = L := ⟨_, rfl⟩
  have hLen : ls.length = L := by rw [← Hlm.out, List.length_map]; exact hLen0
  rw [hLen0] at hcount
  go_enter Tryz.func15, Tryz.ntmps15
  go_wp2_with fail
  refine hL.mono ?_
  rintro e w1 ⟨v1, rfl, hown1, hb1⟩
  rcases hown1.form with ⟨rfl, hnil⟩ | ⟨g, cap, rfl, hg, hgl⟩
  · skip
    have hDn : D = [] := by rw [← Hd.out, ← Hlm.out, hnil]; rfl
    have HRz2 : Hid (([] : List UInt8) = R) := HRnil.out hDn
    have hbz : Hid (Below w.heap.size w (w1.alloc (.cells #[] 5))) := hb1.alloc hb1.size _
    have hbk : (convert 69 9 (.slice (some ⟨w1.heap.size, 0, none⟩) 0 0)).run Tryz.prog (w1.alloc (.cells #[] 5)) = .ok (.string ⟨([] : List UInt8).toArray⟩) (w1.alloc (.cells #[] 5)) := (Own.made w1.heap.size w1 (Nat.le_refl _)).back (P := Tryz.prog) 69 9 Tryz.underlying69 Tryz.underlying5 Tryz.underlying9
    clear hDn hL hown1 hb1 hnil HRnil HRne
    go_wp2
    go_loopw [6] (fun i wr => i = .int .i64 0 ∧ wr = w1) (fun _ _ => 0)
    case atStart => exact ⟨rfl, rfl⟩
    case round =>
      obtain ⟨rfl, rfl⟩ := hrel
      obtain ⟨U, hU⟩ : ∃ U, U = wr := ⟨_, rfl⟩
      subst hU
      go_wp2
      go_loopw [7] (fun n wr => n = .int .i64 0 ∧ wr = U) (fun _ _ => 0)
      case atStart => exact ⟨rfl, rfl⟩
      case round =>
        obtain ⟨rfl, rfl⟩ := hrel
        obtain ⟨V, hV⟩ : ∃ V, V = wr := ⟨_, rfl⟩
        subst hV
        go_wp2
        go_loopw [8, 9] (fun u i wr => i = .int .i64 0 ∧ u = .slice (some ⟨V.heap.size, 0, none⟩) 0 0 ∧ wr = V.alloc (.cells #[] 5)) (fun _ _ _ => 0)
        case atStart => exact ⟨rfl, rfl, rfl⟩
        case round =>
          obtain ⟨rfl, rfl, rfl⟩ := hrel
          go_wp2
          go_ret
          exact ⟨by rw [← HRz2.out]; rfl, hbz.out⟩
  · rw [hLen0] at hown1 ⊢
    have Hown0 : Hid (OwnS w.heap.size (.slice (some ⟨g, 0, none⟩) L cap) ((l0.take 0).map Pl.runs ++ l0.drop 0) w1) := show OwnS _ _ _ _ from by simpa using hown1
    have Hb0 : Hid (Below w.heap.size w w1) := hb1
    clear hL hown1 hb1
    go_wp2
    go_loopw [6] (fun i wr => ∃ k : Nat, k ≤ L ∧ i = .int .i64 k ∧ Hid (OwnS w.heap.size (.slice (some ⟨g, 0, none⟩) L cap) ((l0.take k).map Pl.runs ++ l0.drop k) wr) ∧ Hid (Below w.heap.size w wr)) (fun i _ => L - (Lib.intOf i).toNat)
    case atStart => exact ⟨0, Nat.zero_le _, rfl, Hown0, Hb0⟩
    case round =>
      clear Hown0 Hb0
      obtain ⟨k, hk, rfl, HO, HB⟩ := hrel
      by_cases hlt : k < L
      · have hk0 : k < l0.length := by omega
        have hc := OwnS.cell HO.out k (by simp; omega)
        rw [mid_get l0 k hk0] at hc
        have hc2 : wr.cell? ⟨g, k, none⟩ = some (.string ⟨l0[k].toArray⟩) := hc
        have hsz : (⟨l0[k].toArray⟩ : ByteArray).size ≤ 100000 := by show l0[k].toArray.size ≤ _; rw [List.size_toArray]; exact Hmem0.out _ (List.getElem_mem _)
        have hRu : ∀ w : World, Calls Tryz.prog 42 #[.string ⟨l0[k].toArray⟩] w fun e w' => e = .returned (.string ⟨(Pl.runs l0[k]).toArray⟩) ∧ Below w.heap.size w w' := fun w => specRuns ⟨l0[k].toArray⟩ w hsz
        have HS := (show Hid _ from mid_set l0 k hk0)
        clear hc
        generalize (⟨l0[k].toArray⟩ : ByteArray) = tk at hc2 hsz hRu
        generalize l0[k] = lk at hRu HS
        go_wp2_with fail
        refine (hRu _).mono ?_
        rintro e w2 ⟨rfl, hb2⟩
        have HO2 : Hid (OwnS w.heap.size (.slice (some ⟨g, 0, none⟩) L cap) ((l0.take k).map Pl.runs ++ l0.drop k) w2) := OwnS.keep HO.out (Nat.le_refl _) hb2
        have hfr := OwnS.free HO2.out k
        have hc3 := (hb2.cell (World.block_lt_of_cell? _ _ hc2)).trans hc2
        have HO3 : Hid (OwnS w.heap.size (.slice (some ⟨g, 0, none⟩) L cap) ((l0.take (k + 1)).map Pl.runs ++ l0.drop (k + 1)) (w2.setCell ⟨g, k, none⟩ (.string ⟨(Pl.runs lk).toArray⟩))) := by
          have := OwnS.stored HO2.out (by simp; omega) k (Pl.runs lk)
          rw [HS.out] at this
          exact this
        have HB3 : Hid (Below w.heap.size w (w2.setCell ⟨g, k, none⟩ (.string ⟨(Pl.runs lk).toArray⟩))) := (HB.out.trans (hb2.mono HB.out.size)).setCell hg _
        clear HO HO2 hRu HS hb2 HB
        go_wp2
        go_roundw
        case rel => exact ⟨k + 1, by omega, by go_num, HO3, HB3⟩
        case measure => simp [Lib.intOf]; omega
      · obtain ⟨V0, hV0⟩ : ∃ V0, V0 = wr := ⟨_, rfl⟩
        subst hV0
        have Hown : Hid (OwnS w.heap.size (.slice (some ⟨g, 0, none⟩) L cap) ls V0) := by
          have := HO.out
          rw [List.take_of_length_le (by omega), List.drop_eq_nil_of_le (by omega), List.append_nil, Hlm.out] at this
          exact this
        have Hb1 : Hid (Below w.heap.size w V0) := HB.out
        clear HO HB
        go_wp2
        go_loopw [7] (fun n wr => ∃ k : Nat, k ≤ L ∧ n = .int .i64 k ∧ Hid (Pl.dt (ls.take k) = D) ∧ wr = V0) (fun n _ => (Lib.intOf n).toNat)
        case atStart => exact ⟨L, Nat.le_refl _, rfl, (by show _ = _; rw [List.take_of_length_le (by omega)]; exact Hd.out), rfl⟩
        case round =>
          obtain ⟨k, hk, rfl, hp, rfl⟩ := hrel
          by_cases h0 : 0 < k
          · obtain ⟨j, hkj⟩ : ∃ j, k = j + 1 := ⟨k - 1, by omega⟩
            have hj : j < ls.length := by omega
            have hc : wr.cell? ⟨g, j, none⟩ = some (.string ⟨ls[j].toArray⟩) := OwnS.cell Hown.out j hj
            have hidx : (k : Int) - 1 = (j : Int) := by omega
            have hjL : j < L := by omega
            have hjk : j < k ∧ k ≤ j + 1 := by omega
            rw [hkj] at hp
            have HKJ : Hid (k = j + 1) := hkj
            clear hkj
            cases he : ls[j].isEmpty
            · have HD : Hid (ls.take (j + 1) = D) := by
                show _ = _
                rw [← hp.out, Pl.dt_stop ls j hj he]
              rw [← HKJ.out] at HD
              have HX : Hid (([] : List UInt8) ++ Pl.ends ((ls.take k).drop 0) = R) := by
                show _ = _
                have hne : ¬ (D = []) := by
                  rw [← HD.out]
                  intro e
                  have hl := congrArg List.length e
                  rw [List.length_take, List.length_nil] at hl
                  omega
                rw [List.drop_zero, HD.out, List.nil_append]
                exact HRne.out hne
              have het : (⟨ls[j].toArray⟩ : ByteArray).toList.isEmpty = false := by rw [ByteArray.toList_eq]; exact he
              clear hp he HD
              generalize (⟨ls[j].toArray⟩ : ByteArray) = tj at hc het
              obtain ⟨V, hV⟩ : ∃ V, V = wr := ⟨_, rfl⟩
              subst hV
              go_wp2
              go_loopw [8, 9] (fun u i wr => ∃ (m : Nat) (p : List UInt8), m ≤ k ∧ i = .int .i64 m ∧ p.length ≤ 100002 * m ∧ Hid (p ++ Pl.ends ((ls.take k).drop m) = R) ∧ Hid (Own V.heap.size u p wr) ∧ Hid (Below V.heap.size V wr)) (fun _ i _ => k - (Lib.intOf i).toNat)
              case atStart => exact ⟨0, [], Nat.zero_le _, rfl, by simp, HX, Own.made V.heap.size V (Nat.le_refl _), (Below.refl _ _).alloc (Nat.le_refl _) _⟩
              case round =>
                clear HX
                obtain ⟨m, p, hm, rfl, hpl, HX, HO, HB⟩ := hrel
                by_cases hmj : m < k
                · have hml : m < (ls.take k).length := by rw [List.length_take]; omega
                  have hel : (ls.take k)[m] = ls[m]'(by omega) := List.getElem_take
                  have HX2 := Pl.ends_step (ls.take k) p R m hml HX
                  rw [hel] at HX2
                  have hcm : wr.cell? ⟨g, m, none⟩ = some (.string ⟨(ls[m]'(by omega)).toArray⟩) := (HB.out.cell (World.block_lt_of_cell? _ _ (OwnS.cell Hown.out m (by omega)))).trans (OwnS.cell Hown.out m (by omega))
                  have hsz : (ls[m]'(by omega)).length ≤ 100000 := Hmem.out _ (List.getElem_mem _)
                  have hsz2 : (⟨(ls[m]'(by omega)).toArray⟩ : ByteArray).size ≤ 100000 := by show (ls[m]'(by omega)).toArray.size ≤ _; rw [List.size_toArray]; exact hsz
                  have HD2 : Hid ((⟨(ls[m]'(by omega)).toArray⟩ : ByteArray).data.toList = ls[m]'(by omega)) := show _ = _ from rfl
                  have hown2 := HO.out
                  clear HX hel
                  generalize (⟨(ls[m]'(by omega)).toArray⟩ : ByteArray) = tm at *
                  generalize ls[m]'(by omega) = lm at HX2 HD2 hsz
                  go_wp2_with (at_builtin; go_must (first
                    | (refine wp_app (W := V) rfl _ _ 69 rfl i0 Tryz.underlying69 hi hy0 hy1 hy2 V.heap.size v' (p ++ tm.data.toList) rfl hown' _ [13, 10] rfl 2 2 rfl rfl (by simp; omega) (Nat.le_refl _) hb' ?_; intro v3 w3 hown3 hb3)
                    | (refine wp_apps (W := V) rfl _ _ 69 9 rfl i0 Tryz.underlying69 Tryz.underlying9 hi hy0 hy1 hy2 V.heap.size u8 p rfl hown2 tm rfl (by omega) (Nat.le_refl _) HB.out ?_; intro v' w' hown' hb')))
                  rw [HD2.out] at hown3
                  go_roundw
                  case rel => exact ⟨m + 1, _, by omega, by go_num, (by simp; omega), HX2, hown3, hb3⟩
                  case measure => simp [Lib.intOf]; omega
                · have hpR : p = R := by
                    rw [← HX.out, List.drop_eq_nil_of_le (by rw [List.length_take]; omega)]
                    simp [Pl.ends]
                  have HpR : Hid (p = R) := hpR
                  have hbk := HO.out.back (P := Tryz.prog) 69 9 Tryz.underlying69 Tryz.underlying5 Tryz.underlying9
                  have hn0 : ((k : Int) == 0) = false := beq_eq_false_iff_ne.2 (by omega)
                  have hbe := Hb1.out.trans (HB.out.mono Hb1.out.size)
                  clear HX hpR HB HO
                  go_wp2
                  go_ret
                  exact ⟨by rw [← HpR.out]; rfl, hbe⟩
            · have HN : Hid (Pl.dt (ls.take j) = D) := by
                show _ = _
                rw [Pl.dt_step ls j hj he]; exact hp.out
              have het : (⟨ls[j].toArray⟩ : ByteArray).toList.isEmpty = true := by rw [ByteArray.toList_eq]; exact he
              clear hp he
              generalize (⟨ls[j].toArray⟩ : ByteArray) = tj at hc het
              go_wp2
              go_roundw
              case rel => exact ⟨j, by omega, by go_num, HN, trivial⟩
              case measure => simp [Lib.intOf]; omega
          · obtain rfl : k = 0 := by omega
            have HZ : Hid (D = []) := by
              show _ = _
              rw [← hp.out, List.take_zero]; rfl
            have HRz := HRnil.out HZ.out
            have HRz2 : Hid (([] : List UInt8) = R) := HRz
            have hbz : Hid (Below w.heap.size w (wr.alloc (.cells #[] 5))) := Hb1.out.alloc Hb1.out.size _
            have hbk : (convert 69 9 (.slice (some ⟨wr.heap.size, 0, none⟩) 0 0)).run Tryz.prog (wr.alloc (.cells #[] 5)) = .ok (.string ⟨([] : List UInt8).toArray⟩) (wr.alloc (.cells #[] 5)) := (Own.made wr.heap.size wr (Nat.le_refl _)).back (P := Tryz.prog) 69 9 Tryz.underlying69 Tryz.underlying5 Tryz.underlying9
            clear hp HZ HRz h0
            obtain ⟨V, hV⟩ : ∃ V, V = wr := ⟨_, rfl⟩
            subst hV
            go_wp2
            go_loopw [8, 9] (fun u i wr => i = .int .i64 0 ∧ u = .slice (some ⟨V.heap.size, 0, none⟩) 0 0 ∧ wr = V.alloc (.cells #[] 5)) (fun _ _ _ => 0)
            case atStart => exact ⟨rfl, rfl, rfl⟩
            case round =>
              obtain ⟨rfl, rfl, rfl⟩ := hrel
              go_wp2
              go_ret
              exact ⟨by rw [← HRz2.out]; rfl, hbz.out⟩
def canonAny (s : ByteArray) (x : Int) : ByteArray := if 100000 < s.size ∨ (¬ x = 0 ∧ ¬ x = 1) then ⟨#[]⟩ else ⟨(canonB s x).toArray⟩
end Go.Proofs.YtgabjiamabbheaaGreatDoor
