
/- ReadWords: the specification's side. -/
import Derived.Test.YtajkahpkbeobaaaGreatDoorWdApp
import Derived.Test.YtajkahpkbeobaaaGreatDoorWdLoop
import Derived.Deep.CutBlock
import Derived.Deep.DeepCutAuto
namespace Go.Proofs.YtajkahpkbeobaaaGreatDoor
open Go.RowKit Go.Lib Go.Maps
set_option maxRecDepth 20000 in
theorem specWord (s : ByteArray) (w : World) (hs : s.size ≤ 100000) :
    Calls Tryz.prog 33 #[.string s] w fun e w' => DecOut w.heap.size (Pw.word s.data.toList) e w' ∧ Below w.heap.size w w' := by
  rw [← Pw.word_same]
  have hll : s.data.toList.length = s.size := by simp
  by_cases h : s.size ≤ 75 ∧ hasPrefix s.data.toList [61, 63] = true ∧ hasSuffix s.data.toList [63, 61] = true
  · have hw : Pw.wordS s.data.toList = (match Cu.cut 63 [] s.data.toList with | [x, a, b, c, y] => if x = [61] ∧ y = [61] ∧ setFrom 0 (lower a) ≠ 0 then Pw.three a b c else none | _ => none) := by
      unfold Pw.wordS
      rw [if_pos ⟨by omega, h.2.1, h.2.2⟩]
      rfl
    rw [hw]
    by_cases h5 : (Cu.cut 63 [] s.data.toList).length = 5
    · obtain ⟨p0, p1, p2, p3, p4, hP⟩ : ∃ p0 p1 p2 p3 p4, Cu.cut 63 [] s.data.toList = [p0, p1, p2, p3, p4] := by
        generalize Cu.cut 63 [] s.data.toList = L at h5
        match L, h5 with
        | [a, b, c, d, e], _ => exact ⟨a, b, c, d, e, rfl⟩
      have hm : (match Cu.cut 63 [] s.data.toList with | [x, a, b, c, y] => if x = [61] ∧ y = [61] ∧ setFrom 0 (lower a) ≠ 0 then Pw.three a b c else none | _ => none) = if p0 = [61] ∧ p4 = [61] ∧ setFrom 0 (lower p1) ≠ 0 then Pw.three p1 p2 p3 else none := by rw [hP]
      rw [hm]
      by_cases q0 : p0 = [61]
      · by_cases q4 : p4 = [61]
        · by_cases hz : setFrom 0 (lower p1) = 0
          · rw [if_neg (fun h => h.2.2 hz)]
            exact specWordNoSet s w p0 p1 p2 p3 p4 h.1 h.2.1 h.2.2 hP q0 q4 hz
          · rw [if_pos ⟨q0, q4, hz⟩]
            unfold Pw.three Pw.data
            by_cases hb : p2 = [66] ∨ p2 = [98]
            · rw [if_pos hb]
              exact specWordB s w p0 p1 p2 p3 p4 h.1 h.2.1 h.2.2 hP q0 q4 hz hb
            · rw [if_neg hb]
              by_cases hq : p2 = [81] ∨ p2 = [113]
              · rw [if_pos hq]
                exact specWordQ s w p0 p1 p2 p3 p4 h.1 h.2.1 h.2.2 hP q0 q4 hz hb hq
              · rw [if_neg hq]
                exact specWordOther s w p0 p1 p2 p3 p4 h.1 h.2.1 h.2.2 hP q0 q4 hz hb hq
        · rw [if_neg (fun h => q4 h.2.1)]
          exact specWordNoEq s w p0 p1 p2 p3 p4 h.1 h.2.1 h.2.2 hP (.inr ⟨q0, q4⟩)
      · rw [if_neg (fun h => q0 h.1)]
        exact specWordNoEq s w p0 p1 p2 p3 p4 h.1 h.2.1 h.2.2 hP (.inl q0)
    · have hx : (match Cu.cut 63 [] s.data.toList with | [x, a, b, c, y] => if x = [61] ∧ y = [61] ∧ setFrom 0 (lower a) ≠ 0 then Pw.three a b c else none | _ => none) = none := by
        generalize Cu.cut 63 [] s.data.toList = L at h5
        match L, h5 with
        | [], _ => rfl
        | [_], _ => rfl
        | [_, _], _ => rfl
        | [_, _, _], _ => rfl
        | [_, _, _, _], _ => rfl
        | [_, _, _, _, _], h => exact absurd rfl h
        | _ :: _ :: _ :: _ :: _ :: _ :: _, _ => rfl
      rw [hx]
      exact specWordFive s w h.1 h.2.1 h.2.2 h5
  · have hw : Pw.wordS s.data.toList = none := by
      unfold Pw.wordS
      rw [if_neg (fun h4 => h ⟨by omega, h4.2.1, h4.2.2⟩)]
    rw [hw]
    exact specWordSigns s w hs h
namespace Pw
set_option maxRecDepth 20000 in
theorem gap_cons (c : UInt8) (r : List UInt8) : gap (c :: r) = if bl c then gap r + 1 else 0 := by rw [gap]
set_option maxRecDepth 20000 in
theorem gap_in : ∀ (l : List UInt8) (n : Nat), n < gap l → ∃ h : n < l.length, bl l[n] = true
  | [], n, h => absurd h (Nat.not_lt_zero _)
  | c :: r, n, h => by
    rw [gap_cons] at h
    by_cases hc : bl c = true
    · rw [if_pos hc] at h
      match n, h with
      | 0, _ => exact ⟨by simp, hc⟩
      | n + 1, h =>
        obtain ⟨h1, h2⟩ := gap_in r n (by omega)
        exact ⟨by simpa using h1, h2⟩
    · rw [if_neg hc] at h
      omega
set_option maxRecDepth 20000 in
theorem gap_out : ∀ l : List UInt8, gap l = l.length ∨ ∃ h : gap l < l.length, bl l[gap l] = false
  | [] => .inl rfl
  | c :: r => by
    by_cases hc : bl c = true
    · have e : gap (c :: r) = gap r + 1 := by rw [gap_cons, if_pos hc]
      simp only [e]
      rcases gap_out r with h | ⟨h1, h2⟩
      · exact .inl (by rw [List.length_cons, h])
      · exact .inr ⟨by simpa using h1, by simpa using h2⟩
    · have e : gap (c :: r) = 0 := by rw [gap_cons, if_neg hc]
      simp only [e]
      exact .inr ⟨by simp, by simpa using hc⟩
set_option maxRecDepth 20000 in
theorem tx_consR (c : UInt8) (r : List UInt8) : tx (c :: r) = if bl c then 0 else tx r + 1 := by rw [tx]
set_option maxRecDepth 20000 in
theorem tx_in : ∀ (l : List UInt8) (n : Nat), n < tx l → ∃ h : n < l.length, bl l[n] = false
  | [], n, h => absurd h (Nat.not_lt_zero _)
  | c :: r, n, h => by
    rw [tx_consR] at h
    by_cases hc : bl c = true
    · rw [if_pos hc] at h
      omega
    · rw [if_neg hc] at h
      match n, h with
      | 0, _ => exact ⟨by simp, by simpa using hc⟩
      | n + 1, h =>
        obtain ⟨h1, h2⟩ := tx_in r n (by omega)
        exact ⟨by simpa using h1, h2⟩
set_option maxRecDepth 20000 in
theorem tx_out : ∀ l : List UInt8, tx l = l.length ∨ ∃ h : tx l < l.length, bl l[tx l] = true
  | [] => .inl rfl
  | c :: r => by
    by_cases hc : bl c = true
    · have e : tx (c :: r) = 0 := by rw [tx_consR, if_pos hc]
      simp only [e]
      exact .inr ⟨by simp, hc⟩
    · have e : tx (c :: r) = tx r + 1 := by rw [tx_consR, if_neg hc]
      simp only [e]
      rcases tx_out r with h | ⟨h1, h2⟩
      · exact .inl (by rw [List.length_cons, h])
      · exact .inr ⟨by simpa using h1, by simpa using h2⟩
set_option maxRecDepth 20000 in
theorem bl_small (c : UInt8) (h : bl c = true) : c.toNat < 128 := by
  unfold bl at h
  rw [Bool.or_eq_true, beq_iff_eq, beq_iff_eq] at h
  rcases h with rfl | rfl <;> decide
set_option maxRecDepth 20000 in
theorem pts_take (l : List UInt8) (n : Nat) (h : n < l.length) : pts (l.take (n + 1)) = pts (l.take n) ++ [pt l[n]] := by
  unfold pts
  rw [List.take_succ_eq_append_getElem h, List.map_append]
  rfl
set_option maxRecDepth 20000 in
theorem pts_len (l : List UInt8) : (pts l).length = l.length := by unfold pts; rw [List.length_map]
end Pw
set_option maxRecDepth 20000 in
theorem one_ne {V wx : World} {r0 : Option Nat} {v : Value} {b : Nat} (h : Pw.OneRow V r0 v wx) (hr : r0 ≠ some b) (hb : b < V.heap.size) : v.ownBlock ≠ some b := by
  intro e
  rcases h.2 with h2 | h2
  · exact hr (h2.symm.trans e)
  · have := h2 b e; omega
set_option maxRecDepth 20000 in
theorem one_block {V wx : World} {r0 : Option Nat} {v : Value} {b : Nat} {o : Obj} (h : Pw.OneRow V r0 v wx) (hr : r0 ≠ some b) (hb : V.heap[b]? = some o) : wx.heap[b]? = some o :=
  (h.1.block b (heap_lt hb) (fun e => hr e.symm)).trans hb
set_option maxRecDepth 20000 in
theorem one_cell {V wx : World} {r0 : Option Nat} {v : Value} {b : Nat} {cs : Array Value} {t : TypeId} {z : Nat × Nat} (h : Pw.OneRow V r0 v wx) (hr : r0 ≠ some b) (hb : V.heap[b]? = some (.cells cs t z)) (k : Nat) : wx.cell? ⟨b, k, none⟩ = cs[k]? := by
  have := one_block h hr hb
  simp [World.cell?, this]
set_option maxRecDepth 40000 in
set_option maxHeartbeats 16000000 in
theorem specReadWords (s : ByteArray) (w : World) (hs : s.size ≤ 100000) :
    Calls Tryz.prog 9 #[.string s] w fun e w' => ∃ v, e = .returned v ∧ OwnN w.heap.size v (Pw.rd false s.data.toList) w' ∧ Below w.heap.size w w' := by
  have hTL : ¬ (100000 : Int) < (s.size : Int) := by omega
  have hll : s.data.toList.length = s.size := by simp
  have cB := mkHid (fun c W => specBlankW c W)
  have cW := mkHid (fun (t : ByteArray) (W : World) (ht : t.size ≤ 100000) => specWord t W ht)
  obtain ⟨R, hR⟩ : ∃ R, Pw.rd false s.data.toList = R := ⟨_, rfl⟩
  rw [hR]
  have HR0 : Hid ([] ++ Pw.rd false (s.data.toList.drop 0) = R) := hR
  have HO0 : Hid (OwnN w.heap.size (.slice (some ⟨w.heap.size, 0, none⟩) 0 0) [] (w.alloc (.cells #[] 2))) := OwnN.madeD _ w (Nat.le_refl _)
  have HB0 : Hid (Below w.heap.size w (w.alloc (.cells #[] 2))) := (Below.refl _ _).alloc (Nat.le_refl _) _
  clear hR
  go_enter Tryz.func9, Tryz.ntmps9
  go_wp2
  go_loopw [3, 4, 5] (fun v bv iv wr => ∃ (i : Nat) (b : Bool) (C : List Int), i ≤ s.size ∧ iv = .int .i64 i ∧ bv = .bool b ∧ C.length ≤ i ∧ Hid (C ++ Pw.rd b (s.data.toList.drop i) = R) ∧ Hid (OwnN w.heap.size v C wr) ∧ Hid (Below w.heap.size w wr)) (fun _ _ iv _ => s.size - (Lib.intOf iv).toNat)
  case atStart => exact ⟨0, false, [], Nat.zero_le _, rfl, rfl, Nat.le_refl _, HR0, HO0, HB0⟩
  case round =>
    obtain ⟨i, b, C, hi, rfl, rfl, hCl, HR, HO, Hb⟩ := hrel
    clear HR0 HO0 HB0
    by_cases hlt : i < s.size
    · have hne : s.data.toList.drop i ≠ [] := by
        intro e
        have := congrArg List.length e
        rw [List.length_drop, List.length_nil] at this
        omega
      have hAt : ∀ n (h : n < (s.data.toList.drop i).length), ∃ h2 : i + n < s.size, (s.data.toList.drop i)[n] = s[i + n] := fun n h => by
        rw [List.length_drop] at h
        exact ⟨by omega, by rw [List.getElem_drop]; exact Pl.at_list s (i + n) (by omega)⟩
      have hdl : (s.data.toList.drop i).length = s.size - i := by rw [List.length_drop, hll]
      have hgl := Pw.gap_le (s.data.toList.drop i)
      have hgi := Pw.gap_in (s.data.toList.drop i)
      have hgo := Pw.gap_out (s.data.toList.drop i)
      have htl := Pw.tx_le ((s.data.toList.drop i).drop (Pw.gap (s.data.toList.drop i)))
      have hti := Pw.tx_in ((s.data.toList.drop i).drop (Pw.gap (s.data.toList.drop i)))
      have hto := Pw.tx_out ((s.data.toList.drop i).drop (Pw.gap (s.data.toList.drop i)))
      have hW := fun ps h => Pw.rd_word b (s.data.toList.drop i) ps hne h
      have hN := fun h => Pw.rd_text b (s.data.toList.drop i) hne h
      have hwd : Pw.wd (s.data.toList.drop i) = ((s.data.toList.drop i).drop (Pw.gap (s.data.toList.drop i))).take (Pw.tx ((s.data.toList.drop i).drop (Pw.gap (s.data.toList.drop i)))) := rfl
      have hrs : Pw.rs (s.data.toList.drop i) = ((s.data.toList.drop i).drop (Pw.gap (s.data.toList.drop i))).drop (Pw.tx ((s.data.toList.drop i).drop (Pw.gap (s.data.toList.drop i)))) := rfl
      have hgt := Pw.gap_tx (s.data.toList.drop i) hne
      have hWl := Pw.word_len (Pw.wd (s.data.toList.drop i))
      obtain ⟨g0, hg0⟩ : ∃ g0, Pw.gap (s.data.toList.drop i) = g0 := ⟨_, rfl⟩
      rw [hg0] at hgl htl hti hto hgt hwd hrs hW
      have hgi2 : ∀ n, n < g0 → ∃ h2 : i + n < s.size, Pw.bl (s[i + n]'h2) = true := fun n hn => by
        obtain ⟨h1, h2⟩ := hgi n (by omega)
        obtain ⟨h3, h4⟩ := hAt n h1
        exact ⟨h3, by rw [← h4]; exact h2⟩
      have hgo2 : i + g0 = s.size ∨ ∃ h2 : i + g0 < s.size, Pw.bl (s[i + g0]'h2) = false := by
        simp only [hg0] at hgo
        rcases hgo with h | ⟨h1, h2⟩
        · exact .inl (by omega)
        · obtain ⟨h3, h4⟩ := hAt g0 h1
          exact .inr ⟨h3, by rw [← h4]; exact h2⟩
      have hdd : (s.data.toList.drop i).drop g0 = s.data.toList.drop (i + g0) := List.drop_drop
      rw [hdd] at htl hti hto hgt hwd hrs
      obtain ⟨G, hG⟩ : ∃ G, i + g0 = G := ⟨_, rfl⟩
      rw [hG] at htl hti hto hgt hwd hrs hgo2
      obtain ⟨t0, ht0⟩ : ∃ t0, Pw.tx (s.data.toList.drop G) = t0 := ⟨_, rfl⟩
      rw [ht0] at htl hgt hwd hrs
      have hdg : (s.data.toList.drop G).length = s.size - G := by rw [List.length_drop, hll]
      have hAt2 : ∀ n (h : n < (s.data.toList.drop G).length), ∃ h2 : G + n < s.size, (s.data.toList.drop G)[n] = s[G + n] := fun n h => by
        rw [List.length_drop] at h
        exact ⟨by omega, by rw [List.getElem_drop]; exact Pl.at_list s (G + n) (by omega)⟩
      have hti2 : ∀ n, n < t0 → ∃ h2 : G + n < s.size, Pw.bl (s[G + n]'h2) = false := fun n hn => by
        obtain ⟨h1, h2⟩ := hti n (by omega)
        obtain ⟨h3, h4⟩ := hAt2 n h1
        exact ⟨h3, by rw [← h4]; exact h2⟩
      have hto2 : G + t0 = s.size ∨ ∃ h2 : G + t0 < s.size, Pw.bl (s[G + t0]'h2) = true := by
        simp only [ht0] at hto
        rcases hto with h | ⟨h1, h2⟩
        · exact .inl (by omega)
        · obtain ⟨h3, h4⟩ := hAt2 t0 h1
          exact .inr ⟨h3, by rw [← h4]; exact h2⟩
      obtain ⟨K, hK⟩ : ∃ K, G + t0 = K := ⟨_, rfl⟩
      rw [hK] at hto2
      have hGs : G ≤ s.size := by omega
      have hKs : K ≤ s.size := by omega
      have hiK : i < K := by omega
      have hrs2 : Pw.rs (s.data.toList.drop i) = s.data.toList.drop K := by rw [hrs, List.drop_drop, hK]
      obtain ⟨gl, hgl2⟩ : ∃ gl, (s.data.toList.drop i).take g0 = gl := ⟨_, rfl⟩
      have hgll : gl.length = g0 := by rw [← hgl2, List.length_take]; omega
      have hgat : ∀ n (h : n < gl.length), ∃ h2 : i + n < s.size, gl[n] = s[i + n] ∧ (s[i + n]'h2).toNat < 128 := fun n h => by
        obtain ⟨h1, h2⟩ := hgi2 n (by omega)
        refine ⟨h1, ?_, Pw.bl_small _ h2⟩
        subst hgl2
        rw [List.getElem_take]
        obtain ⟨h3, h4⟩ := hAt n (by omega)
        exact h4
      obtain ⟨xt, hxt⟩ : ∃ xt, s.extract G K = xt := ⟨_, rfl⟩
      have hxw : xt.data.toList = Pw.wd (s.data.toList.drop i) := by
        rw [hwd, ← hxt, ← hK]
        simp [ByteArray.data_extract, Array.toList_extract]
      have hxl : xt.data.toList.length = t0 := by rw [hxw, hwd, List.length_take]; omega
      have hxs : xt.size = t0 := by rw [← hxl]; simp
      have hxat : ∀ n (h : n < xt.data.toList.length), ∃ h2 : G + n < s.size, xt.data.toList[n] = s[G + n] ∧ True := fun n h => by
        have h0 : n < (s.data.toList.drop G).length := by omega
        obtain ⟨h3, h4⟩ := hAt2 n h0
        refine ⟨h3, ?_, trivial⟩
        have : xt.data.toList[n] = ((s.data.toList.drop G).take t0)[n]'(by rw [List.length_take]; omega) := by
          congr 1
          rw [hxw, hwd]
        rw [this, List.getElem_take]
        exact h4
      rw [hgl2, hrs2] at hW
      rw [hg0, hgl2, hrs2] at hN
      rw [← hxw] at hW hN hWl
      have HWd := mkHid hW
      have HNo := mkHid hN
      have HWl := mkHid hWl
      have HG : Hid (i + gl.length = G) := mkHid (by omega)
      have HK : Hid (G + xt.data.toList.length = K) := mkHid (by omega)
      have Hxt := mkHid hxt
      have Hgat := mkHid hgat
      have Hxat := mkHid hxat
      have HG2 : Hid (i + g0 = G) := hG
      have HK2 : Hid (G + t0 = K) := hK
      have hiG : i ≤ G := by omega
      have hGK : G ≤ K := by omega
      have cX := mkHid (fun W => cW.out xt W (by omega))
      have hglC : C.length + gl.length ≤ G := by omega
      have Hxs := mkHid hxs
      clear hgl hgi hgo htl hti hto hwd hrs hgt hW hN hWl hg0 hdd ht0 hdg hAt hAt2 hrs2 hgl2 hxw hdl hne hxt hgat hxat hxl hG hK hxs
      have Hgi := mkHid hgi2
      have Hgo := mkHid hgo2
      have Hti := mkHid hti2
      have Hto := mkHid hto2
      clear hgi2 hgo2 hti2 hto2
      go_upto_block 2 with fail
      go_cut [6] (fun x wx => x = .int .i64 G ∧ wx = wr)
      case first =>
        go_wp2_with fail
        go_loopw [6] (fun x wx => ∃ n : Nat, n ≤ g0 ∧ x = .int .i64 ((i + n : Nat) : Int) ∧ wx = wr) (fun x _ => s.size - (Lib.intOf x).toNat)
        case atStart => exact ⟨0, Nat.zero_le _, by go_num, rfl⟩
        case round =>
          obtain ⟨n, hn, rfl, rfl⟩ := hrel
          by_cases hng : n < g0
          · obtain ⟨h1, h2⟩ := Hgi.out n hng
            have cb := cB.out s[i + n]
            rw [h2] at cb
            clear h2
            go_wp2_with fail
            refine (cb _).mono ?_
            rintro e w2 ⟨rfl, rfl⟩
            go_wp2
            go_roundw
            case rel => exact ⟨n + 1, by omega, by go_num, trivial⟩
            case measure => simp [Lib.intOf]; omega
          · have hng2 : n = g0 := by omega
            subst hng2
            rcases Hgo.out with h1 | ⟨h1, h2⟩
            · have hz : ¬ ((i + n : Nat) : Int) < (s.size : Int) := by have := HG2.out; omega
              have he : (((i + n : Nat) : Int)) = (G : Int) := by have := HG2.out; omega
              go_wp2
              go_meet
              exact ⟨by go_num, rfl⟩
            · have hG3 := HG2.out
              subst hG3
              have cb := cB.out s[i + n]
              rw [h2] at cb
              clear h2
              go_wp2_with fail
              refine (cb _).mono ?_
              rintro e w2 ⟨rfl, rfl⟩
              go_wp2
              go_meet
              exact ⟨by go_num, rfl⟩
      case rest =>
        obtain ⟨rfl, hw0⟩ := hcut
        subst hw0
        go_upto_block 4 with fail
        go_cut [7] (fun x wx => x = .int .i64 K ∧ wx = wc)
        case first =>
          go_wp2_with fail
          go_loopw [7] (fun x wx => ∃ n : Nat, n ≤ t0 ∧ x = .int .i64 ((G + n : Nat) : Int) ∧ wx = wc) (fun x _ => s.size - (Lib.intOf x).toNat)
          case atStart => exact ⟨0, Nat.zero_le _, by go_num, rfl⟩
          case round =>
            obtain ⟨n, hn, rfl, rfl⟩ := hrel
            by_cases hng : n < t0
            · obtain ⟨h1, h2⟩ := Hti.out n hng
              have cb := cB.out s[G + n]
              rw [h2] at cb
              clear h2
              go_wp2_with fail
              refine (cb _).mono ?_
              rintro e w2 ⟨rfl, rfl⟩
              go_wp2
              go_roundw
              case rel => exact ⟨n + 1, by omega, by go_num, trivial⟩
              case measure => simp [Lib.intOf]; omega
            · have hng2 : n = t0 := by omega
              subst hng2
              rcases Hto.out with h1 | ⟨h1, h2⟩
              · have hz : ¬ ((G + n : Nat) : Int) < (s.size : Int) := by have := HK2.out; omega
                have he : (((G + n : Nat) : Int)) = (K : Int) := by have := HK2.out; omega
                go_wp2
                go_meet
                exact ⟨by go_num, rfl⟩
              · have hK3 := HK2.out
                subst hK3
                have cb := cB.out s[G + n]
                rw [h2] at cb
                clear h2
                go_wp2_with fail
                refine (cb _).mono ?_
                rintro e w2 ⟨rfl, rfl⟩
                go_wp2
                go_meet
                exact ⟨by go_num, rfl⟩
        case rest =>
          obtain ⟨rfl, hw1⟩ := hcut
          subst hw1
          have hiI : (i : Int) < (s.size : Int) := by omega
          clear Hgi Hgo Hti Hto cB
          have hext := Hxt.out
          have zc : w.heap.size ≤ wc.heap.size := Hb.out.size
          go_wp2_with fail
          obtain ⟨U0, hU0⟩ : ∃ U0, U0 = wc := ⟨_, rfl⟩
          subst hU0
          refine (cX _).mono ?_
          rintro e W2 ⟨hD, hb2⟩
          have HO2 := mkHid (HO.out.below hb2)
          have Hb2 := mkHid (Hb.out.trans (hb2.mono zc))
          have z2 : U0.heap.size ≤ W2.heap.size := hb2.size
          obtain ⟨r0, hr0⟩ : ∃ r0, u3.ownBlock = r0 := ⟨_, rfl⟩
          have hrlt : ∀ q, r0 = some q → q < U0.heap.size := fun q hq => (World.ownsRow.lt HO.out q (hr0.trans hq)).2
          have hr8 : r0 ≠ some W2.heap.size := fun e => by have := hrlt _ e; omega
          have Hr8 := mkHid hr8
          have Hrlt := mkHid hrlt
          clear cX hb2 HO Hb hr8 hrlt
          cases hp : Pw.word xt.data.toList with
          | none =>
            rw [hp] at hD
            obtain ⟨i0, rfl⟩ := hD
            have Hn : Hid ((C ++ Pw.pts gl) ++ Pw.pts xt.data.toList ++ Pw.rd false (s.data.toList.drop K) = R) := mkHid (by rw [← HR.out, HNo.out hp]; simp)
            obtain ⟨V, hV⟩ : ∃ V, W2.alloc (.cells #[.bool false, .int .i64 i0, .slice none 0 0] 52) = V := ⟨_, rfl⟩
            have HV8 : Hid (V.heap[W2.heap.size]? = some (.cells #[.bool false, .int .i64 i0, .slice none 0 0] 52 (0, 0))) := mkHid (by rw [← hV]; exact heap_allocS _ _)
            have hbV : Below W2.heap.size W2 V := by rw [← hV]; exact (Below.refl _ _).alloc (Nat.le_refl _) _
            have HOC := mkHid (HO2.out.below hbV)
            have HBC := mkHid (Hb2.out.trans (hbV.mono (by omega)))
            have HRC : Hid (Pw.OneRow V r0 u3 V) := mkHid ⟨⟨rfl, rfl, rfl, Nat.le_refl _, fun _ _ _ => rfl⟩, .inl hr0⟩
            have zV : V.heap.size = W2.heap.size + 1 := by rw [← hV]; simp
            have HV := mkHid hV
            have HzV := mkHid zV
            clear hV hbV HO2 Hb2 zV hr0
            clear HWd HNo HWl hp HR
            go_simp
            go_upto_block 6 with fail
            rw [HV.out]
            go_cut [3] (fun v wx => Hid (OwnN w.heap.size v (C ++ Pw.pts gl) wx) ∧ Hid (Pw.OneRow V r0 v wx) ∧ Hid (Below w.heap.size w wx))
            case first =>
              go_wp2_with fail
              go_loopw [3, 9] (fun v mv wx => ∃ n : Nat, n ≤ gl.length ∧ mv = .int .i64 ((i + n : Nat) : Int) ∧ Hid (OwnN w.heap.size v (C ++ Pw.pts (gl.take n)) wx) ∧ Hid (Pw.OneRow V r0 v wx) ∧ Hid (Below w.heap.size w wx)) (fun _ mv _ => s.size - (Lib.intOf mv).toNat)
              case atStart => exact ⟨0, Nat.zero_le _, by go_num, mkHid (by rw [List.take_zero]; show OwnN _ _ (C ++ []) _; rw [List.append_nil]; exact HOC.out), HRC, HBC⟩
              case round =>
                obtain ⟨n, hn, rfl, HO, HRw, Hb⟩ := hrel
                clear HOC HRC HBC HV
                have zr : w.heap.size ≤ wr.heap.size := Hb.out.size
                by_cases hlt : n < gl.length
                · have hsn := Hgat.out n hlt
                  obtain ⟨hsz, hse, hsb⟩ := hsn
                  have Hst := mkHid (Pw.pts_take gl n hlt)
                  have h8 : s[i + n].toNat < 256 := UInt8.toNat_lt _
                  have hlim : (C ++ Pw.pts (gl.take n)).length ≤ 1000000 := by rw [List.length_append, Pw.pts_len, List.length_take]; omega
                  have hltI : ((i + n : Nat) : Int) < (G : Int) := by have := HG.out; omega
                  have hnx : ((i + n : Nat) : Int) + 1 = ((i + (n + 1) : Nat) : Int) := by omega
                  obtain ⟨ob, cb, hsh⟩ := HO.out.shape
                  subst hsh
                  rw [hse] at Hst
                  unfold Pw.pt at Hst
                  obtain ⟨PP, hPP⟩ : ∃ PP, C ++ Pw.pts (gl.take n) = PP := ⟨_, rfl⟩
                  rw [hPP] at HO HRw hlim ⊢
                  have HPP := mkHid hPP
                  clear hPP
                  obtain ⟨cc, hcc⟩ : ∃ cc, s[i + n] = cc := ⟨_, rfl⟩
                  rw [hcc] at Hst h8 hsb
                  have hidx : ∀ h, s[i + n]'h = cc := fun _ => hcc
                  clear hse
                  rw [if_pos hsb] at Hst
                  go_wp2_with (at_builtin; go_must (refine wp_appNa rfl _ _ rfl w.heap.size (.slice ob PP.length cb) PP rfl HO.out (cc.toNat : Int) _ rfl hlim zr ?_; intro v5 w5 hown5 hg5 hv5; refine Hid.out ?_))
                  refine mkHid ?_
                  have HR5 := mkHid (oneRow_step HRw.out hg5 hv5)
                  have Hb5 := mkHid (Hb.out.trans (show Below w.heap.size wr w5 from ⟨hg5.os, hg5.tape, hg5.output, Nat.le_trans (by simp) hg5.size, fun j hj => (hg5.block j (by simp; omega) (fun e => by have := (World.ownsRow.lt HO.out j e.symm).1; omega)).trans (heap_alloc_old _ _ _ (by omega))⟩))
                  clear hg5 hv5
                  go_wp2
                  go_roundw
                  case rel => exact ⟨n + 1, by omega, by go_num, mkHid (by rw [Hst.out, ← List.append_assoc, HPP.out]; exact hown5), HR5, Hb5⟩
                  case measure => simp [Lib.intOf]; omega
                · have hne : n = gl.length := by omega
                  have hltI : ¬ ((i + n : Nat) : Int) < (G : Int) := by have := HG.out; omega
                  have HO2 : Hid (OwnN w.heap.size u3 (C ++ Pw.pts gl) wr) := mkHid (by have := HO.out; rw [List.take_of_length_le (by omega)] at this; exact this)
                  clear hne hlt
                  go_wp2
                  go_meet
                  exact ⟨HO2, HRw, Hb⟩
            case rest =>
              obtain ⟨HOc, HRc, Hbc⟩ := hcut
              have k0 : wc.cell? ⟨W2.heap.size, 0, none⟩ = some (.bool false) := one_cell HRc.out Hr8.out HV8.out 0
              have zC1 : (C ++ Pw.pts gl).length ≤ G := by rw [List.length_append, Pw.pts_len]; omega
              clear HOC HRC HBC
              obtain ⟨C1, hC1⟩ : ∃ C1, C ++ Pw.pts gl = C1 := ⟨_, rfl⟩
              rw [hC1] at HOc zC1 Hn
              have HOD := HOc
              have HRD := HRc
              have HBD := Hbc
              clear hC1 HOc HRc Hbc
              go_upto_block 8 with fail
              go_cut [3] (fun v wx => Hid (OwnN w.heap.size v (C1 ++ Pw.pts xt.data.toList) wx) ∧ Hid (Pw.OneRow V r0 v wx) ∧ Hid (Below w.heap.size w wx))
              case first =>
                go_wp2_with fail
                go_loopw [3, 10] (fun v mv wx => ∃ n : Nat, n ≤ xt.data.toList.length ∧ mv = .int .i64 ((G + n : Nat) : Int) ∧ Hid (OwnN w.heap.size v (C1 ++ Pw.pts (xt.data.toList.take n)) wx) ∧ Hid (Pw.OneRow V r0 v wx) ∧ Hid (Below w.heap.size w wx)) (fun _ mv _ => s.size - (Lib.intOf mv).toNat)
                case atStart => exact ⟨0, Nat.zero_le _, by go_num, mkHid (by rw [List.take_zero]; show OwnN _ _ (C1 ++ []) _; rw [List.append_nil]; exact HOD.out), HRD, HBD⟩
                case round =>
                  obtain ⟨n, hn, rfl, HO, HRw, Hb⟩ := hrel
                  clear HOD HRD HBD HV
                  have zr : w.heap.size ≤ wr.heap.size := Hb.out.size
                  by_cases hlt : n < xt.data.toList.length
                  · have hsn := Hxat.out n hlt
                    obtain ⟨hsz, hse, hsb⟩ := hsn
                    have Hst := mkHid (Pw.pts_take xt.data.toList n hlt)
                    have h8 : s[G + n].toNat < 256 := UInt8.toNat_lt _
                    have hlim : (C1 ++ Pw.pts (xt.data.toList.take n)).length ≤ 1000000 := by rw [List.length_append, Pw.pts_len, List.length_take]; omega
                    have hltI : ((G + n : Nat) : Int) < (K : Int) := by have := HK.out; omega
                    have hnx : ((G + n : Nat) : Int) + 1 = ((G + (n + 1) : Nat) : Int) := by omega
                    obtain ⟨ob, cb, hsh⟩ := HO.out.shape
                    subst hsh
                    rw [hse] at Hst
                    unfold Pw.pt at Hst
                    obtain ⟨PP, hPP⟩ : ∃ PP, C1 ++ Pw.pts (xt.data.toList.take n) = PP := ⟨_, rfl⟩
                    rw [hPP] at HO HRw hlim ⊢
                    have HPP := mkHid hPP
                    clear hPP
                    obtain ⟨cc, hcc⟩ : ∃ cc, s[G + n] = cc := ⟨_, rfl⟩
                    rw [hcc] at Hst h8
                    have hidx : ∀ h, s[G + n]'h = cc := fun _ => hcc
                    clear hse
                    by_cases h128 : cc.toNat < 128
                    · rw [if_pos h128] at Hst
                      go_wp2_with (at_builtin; go_must (refine wp_appNa rfl _ _ rfl w.heap.size (.slice ob PP.length cb) PP rfl HO.out (cc.toNat : Int) _ rfl hlim zr ?_; intro v5 w5 hown5 hg5 hv5; refine Hid.out ?_))
                      refine mkHid ?_
                      have HR5 := mkHid (oneRow_step HRw.out hg5 hv5)
                      have Hb5 := mkHid (Hb.out.trans (show Below w.heap.size wr w5 from ⟨hg5.os, hg5.tape, hg5.output, Nat.le_trans (by simp) hg5.size, fun j hj => (hg5.block j (by simp; omega) (fun e => by have := (World.ownsRow.lt HO.out j e.symm).1; omega)).trans (heap_alloc_old _ _ _ (by omega))⟩))
                      clear hg5 hv5
                      go_wp2
                      go_roundw
                      case rel => exact ⟨n + 1, by omega, by go_num, mkHid (by rw [Hst.out, ← List.append_assoc, HPP.out]; exact hown5), HR5, Hb5⟩
                      case measure => simp [Lib.intOf]; omega
                    · rw [if_neg h128] at Hst
                      go_wp2_with (at_builtin; go_must (refine wp_appNa rfl _ _ rfl w.heap.size (.slice ob PP.length cb) PP rfl HO.out 65533 _ rfl hlim zr ?_; intro v5 w5 hown5 hg5 hv5; refine Hid.out ?_))
                      refine mkHid ?_
                      have HR5 := mkHid (oneRow_step HRw.out hg5 hv5)
                      have Hb5 := mkHid (Hb.out.trans (show Below w.heap.size wr w5 from ⟨hg5.os, hg5.tape, hg5.output, Nat.le_trans (by simp) hg5.size, fun j hj => (hg5.block j (by simp; omega) (fun e => by have := (World.ownsRow.lt HO.out j e.symm).1; omega)).trans (heap_alloc_old _ _ _ (by omega))⟩))
                      clear hg5 hv5
                      go_wp2
                      go_roundw
                      case rel => exact ⟨n + 1, by omega, by go_num, mkHid (by rw [Hst.out, ← List.append_assoc, HPP.out]; exact hown5), HR5, Hb5⟩
                      case measure => simp [Lib.intOf]; omega
                  · have hne : n = xt.data.toList.length := by omega
                    have hltI : ¬ ((G + n : Nat) : Int) < (K : Int) := by have := HK.out; omega
                    have HO2 : Hid (OwnN w.heap.size u3 (C1 ++ Pw.pts xt.data.toList) wr) := mkHid (by have := HO.out; rw [List.take_of_length_le (by omega)] at this; exact this)
                    clear hne hlt
                    go_wp2
                    go_meet
                    exact ⟨HO2, HRw, Hb⟩
              case rest =>
                obtain ⟨HOd, HRd, Hbd⟩ := hcut
                have k0 : wc.cell? ⟨W2.heap.size, 0, none⟩ = some (.bool false) := one_cell HRd.out Hr8.out HV8.out 0
                have zC2 : (C1 ++ Pw.pts xt.data.toList).length ≤ K := by rw [List.length_append, Pw.pts_len]; have := HK.out; omega
                clear HOD HRD HBD
                obtain ⟨C2, hC2⟩ : ∃ C2, C1 ++ Pw.pts xt.data.toList = C2 := ⟨_, rfl⟩
                rw [hC2] at HOd zC2 Hn
                clear hC2
                go_wp2
                go_roundw
                case rel => exact ⟨K, false, C2, hKs, rfl, rfl, zC2, Hn, HOd, Hbd⟩
                case measure => simp [Lib.intOf]; omega
          | some ps =>
            have hpl := HWl.out ps hp
            have hpk : C.length + ps.length ≤ 200000 := by have := HK.out; omega
            have hpk2 : G + ps.length ≤ 200000 := by have := HK.out; omega
            rw [hp] at hD
            obtain ⟨v, rfl, hOv⟩ := hD
            have hlv := fun q hq => World.ownsRow.lt hOv q hq
            obtain ⟨o', c', rfl⟩ := hOv.shape
            cases b with
            | true =>
              have Hn : Hid ((C ++ ps) ++ Pw.rd true (s.data.toList.drop K) = R) := mkHid (by rw [← HR.out, HWd.out ps hp]; simp)
              have zz : (C ++ ps).length ≤ K := by rw [List.length_append]; have := HK.out; omega
              obtain ⟨V, hV⟩ : ∃ V, W2.alloc (.cells #[.bool true, .int .i64 0, .slice o' ps.length c'] 52) = V := ⟨_, rfl⟩
              have HV8 : Hid (V.heap[W2.heap.size]? = some (.cells #[.bool true, .int .i64 0, .slice o' ps.length c'] 52 (0, 0))) := mkHid (by rw [← hV]; exact heap_allocS _ _)
              have hbV : Below W2.heap.size W2 V := by rw [← hV]; exact (Below.refl _ _).alloc (Nat.le_refl _) _
              have HOC := mkHid (HO2.out.below hbV)
              have HBC := mkHid (Hb2.out.trans (hbV.mono (by omega)))
              have HRC : Hid (Pw.OneRow V r0 u3 V) := mkHid ⟨⟨rfl, rfl, rfl, Nat.le_refl _, fun _ _ _ => rfl⟩, .inl hr0⟩
              have zV : V.heap.size = W2.heap.size + 1 := by rw [← hV]; simp
              have HV := mkHid hV
              have HzV := mkHid zV
              clear hV hbV HO2 Hb2 zV hr0
              have hOvV : OwnN U0.heap.size (.slice o' ps.length c') ps V := hOv.below (by rw [← HV.out]; exact (Below.refl _ _).alloc (Nat.le_refl _) _)
              have hIn := hOvV.inL
              have k0 : V.cell? ⟨W2.heap.size, 0, none⟩ = some (.bool true) := one_cell HRC.out Hr8.out HV8.out 0
              have k2 : V.cell? ⟨W2.heap.size, 2, none⟩ = some (.slice o' ps.length c') := one_cell HRC.out Hr8.out HV8.out 2
              have hn8 := one_ne HRC.out Hr8.out (heap_lt HV8.out)
              have zV2 : w.heap.size ≤ V.heap.size := HBC.out.size
              clear HWd HNo HWl hp HR hOv hOvV hlv
              go_simp
              go_wp2_with (at_builtin; rw [HV.out]; go_must (refine wp_appNs (w := V) rfl _ _ rfl w.heap.size u3 C rfl HOC.out o' ps c' U0.heap.size rfl hIn (by omega) zV2 ?_; intro v' w' hO' hG' hv'; refine Hid.out ?_))
              have k0' : w'.cell? ⟨W2.heap.size, 0, none⟩ = some (.bool true) := by have h := (hG'.block W2.heap.size (heap_lt HV8.out) (fun e => hn8 e.symm)).trans HV8.out; simp [World.cell?, h]
              have bA := mkHid (HBC.out.grown hG' zV2 (fun k hk => (World.ownsRow.lt HOC.out k hk).1))
              have HO5 := mkHid hO'
              clear hO' hG' hv' hIn HOC HBC HRC k0 k2 hn8
              obtain ⟨CX, hCX⟩ : ∃ CX, C ++ ps = CX := ⟨_, rfl⟩
              rw [hCX] at HO5 zz Hn
              clear hCX
              refine mkHid ?_
              go_wp2
              go_roundw
              case rel => exact ⟨K, true, CX, hKs, rfl, rfl, zz, Hn, HO5, bA⟩
              case measure => simp [Lib.intOf]; omega
            | false =>
              have Hn : Hid ((C ++ Pw.pts gl) ++ ps ++ Pw.rd true (s.data.toList.drop K) = R) := mkHid (by rw [← HR.out, HWd.out ps hp]; simp)
              obtain ⟨V, hV⟩ : ∃ V, W2.alloc (.cells #[.bool true, .int .i64 0, .slice o' ps.length c'] 52) = V := ⟨_, rfl⟩
              have HV8 : Hid (V.heap[W2.heap.size]? = some (.cells #[.bool true, .int .i64 0, .slice o' ps.length c'] 52 (0, 0))) := mkHid (by rw [← hV]; exact heap_allocS _ _)
              have hbV : Below W2.heap.size W2 V := by rw [← hV]; exact (Below.refl _ _).alloc (Nat.le_refl _) _
              have HOC := mkHid (HO2.out.below hbV)
              have HBC := mkHid (Hb2.out.trans (hbV.mono (by omega)))
              have HRC : Hid (Pw.OneRow V r0 u3 V) := mkHid ⟨⟨rfl, rfl, rfl, Nat.le_refl _, fun _ _ _ => rfl⟩, .inl hr0⟩
              have zV : V.heap.size = W2.heap.size + 1 := by rw [← hV]; simp
              have HV := mkHid hV
              have HzV := mkHid zV
              clear hV hbV HO2 Hb2 zV hr0
              have hOvV : OwnN U0.heap.size (.slice o' ps.length c') ps V := hOv.below (by rw [← HV.out]; exact (Below.refl _ _).alloc (Nat.le_refl _) _)
              have HOv := mkHid hOvV
              clear HWd HNo HWl hp HR hOv hOvV hlv
              go_simp
              go_upto_block 6 with fail
              rw [HV.out]
              go_cut [3] (fun v wx => Hid (OwnN w.heap.size v (C ++ Pw.pts gl) wx) ∧ Hid (Pw.OneRow V r0 v wx) ∧ Hid (Below w.heap.size w wx))
              case first =>
                go_wp2_with fail
                go_loopw [3, 9] (fun v mv wx => ∃ n : Nat, n ≤ gl.length ∧ mv = .int .i64 ((i + n : Nat) : Int) ∧ Hid (OwnN w.heap.size v (C ++ Pw.pts (gl.take n)) wx) ∧ Hid (Pw.OneRow V r0 v wx) ∧ Hid (Below w.heap.size w wx)) (fun _ mv _ => s.size - (Lib.intOf mv).toNat)
                case atStart => exact ⟨0, Nat.zero_le _, by go_num, mkHid (by rw [List.take_zero]; show OwnN _ _ (C ++ []) _; rw [List.append_nil]; exact HOC.out), HRC, HBC⟩
                case round =>
                  obtain ⟨n, hn, rfl, HO, HRw, Hb⟩ := hrel
                  clear HOC HRC HBC HV
                  have zr : w.heap.size ≤ wr.heap.size := Hb.out.size
                  by_cases hlt : n < gl.length
                  · have hsn := Hgat.out n hlt
                    obtain ⟨hsz, hse, hsb⟩ := hsn
                    have Hst := mkHid (Pw.pts_take gl n hlt)
                    have h8 : s[i + n].toNat < 256 := UInt8.toNat_lt _
                    have hlim : (C ++ Pw.pts (gl.take n)).length ≤ 1000000 := by rw [List.length_append, Pw.pts_len, List.length_take]; omega
                    have hltI : ((i + n : Nat) : Int) < (G : Int) := by have := HG.out; omega
                    have hnx : ((i + n : Nat) : Int) + 1 = ((i + (n + 1) : Nat) : Int) := by omega
                    obtain ⟨ob, cb, hsh⟩ := HO.out.shape
                    subst hsh
                    rw [hse] at Hst
                    unfold Pw.pt at Hst
                    obtain ⟨PP, hPP⟩ : ∃ PP, C ++ Pw.pts (gl.take n) = PP := ⟨_, rfl⟩
                    rw [hPP] at HO HRw hlim ⊢
                    have HPP := mkHid hPP
                    clear hPP
                    obtain ⟨cc, hcc⟩ : ∃ cc, s[i + n] = cc := ⟨_, rfl⟩
                    rw [hcc] at Hst h8 hsb
                    have hidx : ∀ h, s[i + n]'h = cc := fun _ => hcc
                    clear hse
                    rw [if_pos hsb] at Hst
                    go_wp2_with (at_builtin; go_must (refine wp_appNa rfl _ _ rfl w.heap.size (.slice ob PP.length cb) PP rfl HO.out (cc.toNat : Int) _ rfl hlim zr ?_; intro v5 w5 hown5 hg5 hv5; refine Hid.out ?_))
                    refine mkHid ?_
                    have HR5 := mkHid (oneRow_step HRw.out hg5 hv5)
                    have Hb5 := mkHid (Hb.out.trans (show Below w.heap.size wr w5 from ⟨hg5.os, hg5.tape, hg5.output, Nat.le_trans (by simp) hg5.size, fun j hj => (hg5.block j (by simp; omega) (fun e => by have := (World.ownsRow.lt HO.out j e.symm).1; omega)).trans (heap_alloc_old _ _ _ (by omega))⟩))
                    clear hg5 hv5
                    go_wp2
                    go_roundw
                    case rel => exact ⟨n + 1, by omega, by go_num, mkHid (by rw [Hst.out, ← List.append_assoc, HPP.out]; exact hown5), HR5, Hb5⟩
                    case measure => simp [Lib.intOf]; omega
                  · have hne : n = gl.length := by omega
                    have hltI : ¬ ((i + n : Nat) : Int) < (G : Int) := by have := HG.out; omega
                    have HO2 : Hid (OwnN w.heap.size u3 (C ++ Pw.pts gl) wr) := mkHid (by have := HO.out; rw [List.take_of_length_le (by omega)] at this; exact this)
                    clear hne hlt
                    go_wp2
                    go_meet
                    exact ⟨HO2, HRw, Hb⟩
              case rest =>
                obtain ⟨HOc, HRc, Hbc⟩ := hcut
                have zC1 : (C ++ Pw.pts gl).length ≤ G := by rw [List.length_append, Pw.pts_len]; omega
                clear HOC HRC HBC
                obtain ⟨C1, hC1⟩ : ∃ C1, C ++ Pw.pts gl = C1 := ⟨_, rfl⟩
                rw [hC1] at HOc zC1 Hn
                clear hC1
                have hOvW : OwnN U0.heap.size (.slice o' ps.length c') ps wc := row_stayW HOv.out (fun q hq => HRc.out.1.block q (World.ownsRow.lt HOv.out q hq).2 (fun e => by have := Hrlt.out q e.symm; have := (World.ownsRow.lt HOv.out q hq).1; omega))
                have hIn := hOvW.inL
                have k0 : wc.cell? ⟨W2.heap.size, 0, none⟩ = some (.bool true) := one_cell HRc.out Hr8.out HV8.out 0
                have k2 : wc.cell? ⟨W2.heap.size, 2, none⟩ = some (.slice o' ps.length c') := one_cell HRc.out Hr8.out HV8.out 2
                have hn8 := one_ne HRc.out Hr8.out (heap_lt HV8.out)
                have hb8 := one_block HRc.out Hr8.out HV8.out
                have zz : (C1 ++ ps).length ≤ K := by rw [List.length_append]; have := HK.out; omega
                have zc1 : w.heap.size ≤ wc.heap.size := Hbc.out.size
                go_wp2_with (at_builtin; go_must (refine wp_appNs (w := wc) rfl _ _ rfl w.heap.size u3 C1 rfl HOc.out o' ps c' U0.heap.size rfl hIn (by omega) zc1 ?_; intro v' w' hO' hG' hv'; refine Hid.out ?_))
                have k0' : w'.cell? ⟨W2.heap.size, 0, none⟩ = some (.bool true) := by have h := (hG'.block W2.heap.size (heap_lt hb8) (fun e => hn8 e.symm)).trans hb8; simp [World.cell?, h]
                have bA := mkHid (Hbc.out.grown hG' zc1 (fun k hk => (World.ownsRow.lt HOc.out k hk).1))
                have HO5 := mkHid hO'
                clear hO' hG' hv' hIn HOc HRc Hbc k0 k2 hn8 hb8 hOvW
                obtain ⟨CX, hCX⟩ : ∃ CX, C1 ++ ps = CX := ⟨_, rfl⟩
                rw [hCX] at HO5 zz Hn
                clear hCX
                refine mkHid ?_
                go_wp2
                go_roundw
                case rel => exact ⟨K, true, CX, hKs, rfl, rfl, zz, Hn, HO5, bA⟩
                case measure => simp [Lib.intOf]; omega
    · have hn : i = s.size := by omega
      have Hn : Hid (C = R) := mkHid (by rw [← HR.out, List.drop_eq_nil_of_le (by omega), Pw.rd_nil, List.append_nil])
      clear HR cB cW
      go_wp2
      go_ret
      rw [← Hn.out]
      exact ⟨_, rfl, HO.out, Hb.out⟩
end Go.Proofs.YtajkahpkbeobaaaGreatDoor
