/- UnQuoted, the specification's side. -/
import Derived.Test.YtkchnlfedkfpjaaDoorUnQTests
namespace Go.Proofs.YtkchnlfedkfpjaaDoor
open Go.RowKit Go.Lib
theorem heap_alloc_old (w : World) (o : Obj) (g : Nat) (h : g < w.heap.size) : (w.alloc o).heap[g]? = w.heap[g]? := by
  show (w.heap.push o)[g]? = w.heap[g]?
  simp [Array.getElem?_push]
  omega
theorem heap_lt {w : World} {b : Nat} {o : Obj} (h : w.heap[b]? = some o) : b < w.heap.size := by
  rw [Array.getElem?_eq_some_iff] at h; exact h.1
theorem at_toNat (T : ByteArray) (i : Int) (k : Nat) (hk : i.toNat = k) (h1 : i.toNat < T.size) (h2 : k < T.size) : T[i.toNat]'h1 = T[k]'h2 := by
  subst hk; rfl
theorem cell_fresh (w : World) (x : Value) (t : TypeId) : (w.drew.alloc (.cells #[x] t)).cell? ((⟨w.heap.size, 0, none⟩ : Addr).add 0) = some x := by
  show (w.drew.alloc (.cells #[x] t)).cell? ((⟨w.drew.heap.size, 0, none⟩ : Addr).add 0) = some x
  have h := heap_alloc_at w.drew (.cells #[x] t)
  rw [add_off]
  generalize w.drew.alloc (.cells #[x] t) = V at h ⊢
  generalize w.drew.heap.size = n at h ⊢
  simp [World.cell?, h]
/-- The specification's way out. -/
theorem retS (w wr : World) (tmps : Array Value) (cs : Array Value) (hp : tmps.getD 2 undef = .pointer (some ⟨w.heap.size, 0, none⟩)) {old : Array Value} (hres : wr.heap[w.heap.size]? = some (.cells old 23 (0, 0))) (hb : Below w.heap.size w wr) (h2 : cs.size = 2 := by rfl) :
    bodyPost Tryd.prog Tryd.f4 (fun e w' => e = .returned (.agg cs) ∧ Below w.heap.size w w') Exit.ret { tmps := tmps, defers := [] } (wr.setRow w.heap.size cs) := by
  refine bodyPost_ret (v := .agg cs) (results_cell_row Tryd.results4 _ _ w.heap.size 23 _ (0, 0) _ hp (setRow_heap _ _ _ _ _ _ hres) Tryd.underlying23 rfl ?_) rfl ⟨rfl, hb.grown (grown_setRow _ _ _) hb.size (fun j hj => by cases hj; exact Nat.le_refl _)⟩
  rw [h2]
  kernel_rfl
set_option maxRecDepth 40000 in
set_option maxHeartbeats 4000000 in
theorem specUn (s : ByteArray) (w : World) (hs : s.size ≤ 100000) :
    Calls Tryd.prog 4 #[.string s] w fun e w' => e = .returned (unV (Pl.p2 [] (Pl.p1 [] s.data.toList))) ∧ Below w.heap.size w w' := by
  obtain ⟨i0, hi, hy0, hy1, hy2⟩ := info_parts Tryd.info5
  obtain ⟨S, hS⟩ : ∃ S, Pl.p1 [] s.data.toList = S := ⟨_, rfl⟩
  rw [hS]
  have HS : Hid (Pl.p1 [] s.data.toList = S) := hS
  clear hS
  obtain ⟨X, hX⟩ : ∃ X, Pl.p2 [] S = X := ⟨_, rfl⟩
  rw [hX]
  have HX : Hid (Pl.p2 [] S = X) := hX
  clear hX
  have hll : s.data.toList.length = s.size := Pl.len_list s
  have hres0 : (w.alloc (.cells #[.bool false, .string ⟨#[]⟩] 23)).heap[w.heap.size]? = some (.cells #[.bool false, .string ⟨#[]⟩] 23 (0, 0)) := heap_alloc_at _ _
  have hbel0 : Below w.heap.size w (w.alloc (.cells #[.bool false, .string ⟨#[]⟩] 23)) := (Below.refl _ _).alloc (Nat.le_refl _) _
  have hsz0 : (w.alloc (.cells #[.bool false, .string ⟨#[]⟩] 23)).heap.size = w.heap.size + 1 := by simp
  go_enter Tryd.func4, Tryd.ntmps4
  go_wp2
  obtain ⟨W, hW⟩ : ∃ W, W = w.alloc (.cells #[.bool false, .string ⟨#[]⟩] 23) := ⟨_, rfl⟩
  rw [← hW] at hres0 hbel0 hsz0 ⊢
  have hown0 := Own.made W.heap.size W (Nat.le_refl _)
  rw [show (⟨W.heap.size, 0, none⟩ : Addr) = ⟨w.heap.size + 1, 0, none⟩ by rw [hsz0]] at hown0
  have hbW0 : Below W.heap.size W (W.alloc (.cells #[] 5)) := (Below.refl _ _).alloc (Nat.le_refl _) _
  have hWs : w.heap.size < W.heap.size := by omega
  clear hW hsz0
  go_loopw [3, 4] (fun v i wr => ∃ (k : Nat) (p : List UInt8), k ≤ s.size ∧ i = .int .i64 k ∧ p.length ≤ k ∧ Hid (Pl.p1 p (s.data.toList.drop k) = S) ∧ Own W.heap.size v p wr ∧ Below W.heap.size W wr) (fun _ i _ => s.size - (Lib.intOf i).toNat)
  case atStart => exact ⟨0, [], Nat.zero_le _, rfl, by simp, HS, hown0, hbW0⟩
  case round =>
    obtain ⟨k, p, hk, rfl, hpl, hp, hown, hb⟩ := hrel
    by_cases hlt : k < s.size
    · have hEA := specEndAt s k (by omega) (by omega) wr
      rw [decide_eq_false (by omega), Bool.false_or] at hEA
      cases hc : Pl.crlf s.data.toList k with
      | true =>
        rw [hc] at hEA
        have hroom : k + 2 ≤ s.size := by obtain ⟨h, -⟩ := (Pl.crlf_iff _ _).1 hc; omega
        have hE : Hid (Pl.p1 (Pl.trimR p ++ [13, 10]) (s.data.toList.drop (k + 2)) = S) := show _ = _ by
          have := Pl.p1_end p (s.data.toList.drop k) (by rw [Pl.crlf_drop]; exact hc)
          rw [List.drop_drop, hp.out] at this
          exact this.symm
        clear hp hc
        go_wp2_with fail
        refine hEA.mono ?_
        rintro e w2 ⟨rfl, rfl⟩
        go_wp2
        clear hEA
        go_loopw [3] (fun v wr => ∃ j : Nat, j ≤ p.length ∧ Own W.heap.size v (p.take j) w2 ∧ Hid (Pl.tk p j = Pl.tk p p.length) ∧ wr = w2) (fun v _ => match v with | .slice _ n _ => n | _ => 0)
        case atStart => exact ⟨p.length, Nat.le_refl _, by rw [List.take_length]; exact hown, rfl, rfl⟩
        case round =>
          obtain ⟨j, hj, hownj, htk, rfl⟩ := hrel
          have hjl : (p.take j).length = j := by rw [List.length_take]; omega
          cases j with
          | zero =>
            have hE2 : Hid (Pl.p1 ([] ++ [13, 10]) (s.data.toList.drop (k + 2)) = S) := show _ = _ by
              have e : Pl.trimR p = [] := by unfold Pl.trimR; rw [← htk.out]; rfl
              have := hE.out
              rw [e] at this
              exact this
            clear hE htk hown
            rw [List.take_zero] at hownj
            obtain ⟨oj, cj, rfl⟩ := hownj.flat
            simp only [List.length_nil] at hownj ⊢
            go_wp2_with (at_builtin; go_must (refine wp_app (W := W) rfl _ _ 27 rfl i0 Tryd.underlying27 hi hy0 hy1 hy2 W.heap.size (.slice oj 0 cj) [] rfl hownj _ [13, 10] (by simp [byteCells]) 2 2 rfl rfl (by simp) (Nat.le_refl _) hb ?_; intro v3 w3 hown3 hb3))
            go_roundw
            case rel => exact ⟨k + 2, _, by omega, by go_num, by simp, hE2, hown3, hb3⟩
            case measure => simp [Lib.intOf]; omega
          | succ j =>
            have hval : p.getD j 0 = p[j]'(by omega) := by
              rw [List.getD_eq_getElem?_getD, List.getElem?_eq_getElem (by omega)]; rfl
            rcases hownj.form with ⟨-, h0⟩ | ⟨g, cj, rfl⟩
            · rw [h0] at hjl; simp at hjl
            have hcell := hownj.cell j (by omega)
            rw [List.getElem_take] at hcell
            have hcut := hownj.cut j (by omega)
            rw [List.take_take, Nat.min_eq_left (by omega)] at hcut
            have hB := specBlank (p[j]'(by omega)) wr
            cases hbl : Pl.bl (p[j]'(by omega))
            · have hE2 : Hid (Pl.p1 (p.take (j + 1) ++ [13, 10]) (s.data.toList.drop (k + 2)) = S) := show _ = _ by
                have e : Pl.trimR p = p.take (j + 1) := by unfold Pl.trimR; rw [← htk.out, tk_step_no (by rw [hval]; exact hbl)]
                have := hE.out
                rw [e] at this
                exact this
              rw [hbl] at hB
              generalize p[j]'(by omega) = c at hB hcell
              rw [hjl] at hownj ⊢
              clear hE htk hown hcut hval hbl
              go_wp2_with (first | (go_at_call 8; go_must (refine hB.mono ?_; rintro e w3 ⟨rfl, rfl⟩)) | (at_builtin; go_must (refine wp_app (W := W) rfl _ _ 27 rfl i0 Tryd.underlying27 hi hy0 hy1 hy2 W.heap.size (.slice (some ⟨g, 0, none⟩) (j + 1) cj) (p.take (j + 1)) rfl hownj _ [13, 10] (by simp [byteCells]) 2 2 rfl rfl (by simp; omega) (Nat.le_refl _) hb ?_; intro v3 w3 hown3 hb3)))
              go_roundw
              case rel => exact ⟨k + 2, _, by omega, by go_num, by simp; omega, hE2, hown3, hb3⟩
              case measure => simp [Lib.intOf]; omega
            · have hE2 : Hid (Pl.tk p j = Pl.tk p p.length) := show _ = _ by rw [← htk.out, tk_step_yes (by rw [hval]; exact hbl)]
              have hcj := hownj.caps
              rw [hjl] at hcj
              rw [hbl] at hB
              generalize p[j]'(by omega) = c at hB hcell
              rw [hjl] at hownj ⊢
              clear htk hown hval hbl
              go_wp2_with (go_at_call 8; go_must (refine hB.mono ?_; rintro e w3 ⟨rfl, rfl⟩))
              exact ⟨⟨j, by omega, hcut, hE2, trivial⟩, Nat.lt_succ_self _⟩
      | false =>
        rw [hc] at hEA
        have hE : Hid (Pl.p1 (p ++ [s[k]]) (s.data.toList.drop (k + 1)) = S) := show _ = _ by
          have := hp.out
          rw [List.drop_eq_getElem_cons (by omega), Pl.p1, if_neg (by rw [← List.drop_eq_getElem_cons (by omega), Pl.crlf_drop, hc]; simp), Pl.at_list s k hlt] at this
          exact this
        clear hp hc
        go_wp2_with (first | (go_at_call 7; go_must (refine hEA.mono ?_; rintro e w2 ⟨rfl, rfl⟩)) | (at_builtin; go_must (refine wp_app (W := W) rfl _ _ 27 rfl i0 Tryd.underlying27 hi hy0 hy1 hy2 W.heap.size u3 p rfl hown _ [s[k]] (by simp [byteCells]) 1 1 rfl rfl (by simp; omega) (Nat.le_refl _) hb ?_; intro v3 w3 hown3 hb3)))
        go_roundw
        case rel => exact ⟨k + 1, _, by omega, by go_num, by simp; omega, hE, hown3, hb3⟩
        case measure => simp [Lib.intOf]; omega
    · have hE : Hid (Pl.trimR p = S) := show _ = _ by
        have := hp.out
        rw [List.drop_eq_nil_of_le (by omega), Pl.p1_nil] at this
        exact this
      clear hp
      go_wp2
      go_loopw [3] (fun v wq => ∃ j : Nat, j ≤ p.length ∧ Own W.heap.size v (p.take j) wr ∧ Hid (Pl.tk p j = Pl.tk p p.length) ∧ wq = wr) (fun v _ => match v with | .slice _ n _ => n | _ => 0)
      case atStart => exact ⟨p.length, Nat.le_refl _, by rw [List.take_length]; exact hown, rfl, rfl⟩
      case round =>
        obtain ⟨j, hj, hownj, htk, rfl⟩ := hrel
        have hjl : (p.take j).length = j := by rw [List.length_take]; omega
        cases j with
        | zero =>
          have hE2 : Hid (S = []) := show _ = _ by
            rw [← hE.out]; unfold Pl.trimR; rw [← htk.out]; rfl
          obtain ⟨oj, cj, rfl⟩ := hownj.flat
          rw [List.take_zero] at hownj ⊢
          simp only [List.length_nil] at hownj ⊢
          have hres := (hb.block w.heap.size (by omega)).trans hres0
          have hbw := hbel0.trans (hb.mono hbel0.size)
          have hresA : (wr.alloc (.cells #[] 5)).heap[w.heap.size]? = some (.cells #[.bool false, .string ⟨#[]⟩] 23 (0, 0)) := (heap_alloc_old _ _ _ (heap_lt hres)).trans hres
          have hbwA := hbw.alloc hbw.size (.cells #[] 5)
          clear hE htk hown
          have hbk := hownj.back (P := Tryd.prog) 27 9 Tryd.underlying27 Tryd.underlying5 Tryd.underlying9
          have hbk2 := (Own.made wr.heap.size wr (Nat.le_refl _)).back (P := Tryd.prog) 27 9 Tryd.underlying27 Tryd.underlying5 Tryd.underlying9
          go_wp2
          refine wp_loop_rounds 1 ?_
          rw [rounds_succ]
          go_wp2_with (first | (refine wpL_store_row rfl 23 _ _ rfl w.heap.size #[.bool true, .string ⟨#[]⟩] rfl rfl 23 _ hresA (by kernel_rfl) rfl (by simp [Value.oneCell']) ?_) | go_in)
          have hXE : X = some [] := by have := HX.out; rw [hE2.out, Pl.p2] at this; exact this.symm
          rw [hXE]
          exact retS _ _ _ _ rfl hresA hbwA
        | succ j =>
          have hval : p.getD j 0 = p[j]'(by omega) := by
            rw [List.getD_eq_getElem?_getD, List.getElem?_eq_getElem (by omega)]; rfl
          rcases hownj.form with ⟨-, h0⟩ | ⟨g, cj, rfl⟩
          · rw [h0] at hjl; simp at hjl
          have hcell := hownj.cell j (by omega)
          rw [List.getElem_take] at hcell
          have hcut := hownj.cut j (by omega)
          rw [List.take_take, Nat.min_eq_left (by omega)] at hcut
          have hB := specBlank (p[j]'(by omega)) wr
          cases hbl : Pl.bl (p[j]'(by omega))
          · have hE2 : Hid (p.take (j + 1) = S) := show _ = _ by
              rw [← hE.out]; unfold Pl.trimR; rw [← htk.out, tk_step_no (by rw [hval]; exact hbl)]
            rw [hbl] at hB
            generalize p[j]'(by omega) = c at hB hcell
            have hSl : S.length = j + 1 := by rw [← hE2.out]; exact hjl
            have hbk := hownj.back (P := Tryd.prog) 27 9 Tryd.underlying27 Tryd.underlying5 Tryd.underlying9
            rw [hjl, hE2.out] at hbk
            rw [hjl]
            obtain ⟨T, hT⟩ : ∃ T : ByteArray, T = ⟨S.toArray⟩ := ⟨_, rfl⟩
            rw [← hT] at hbk
            have hTl : T.data.toList = S := by rw [hT]
            have hTs : T.size = j + 1 := by rw [← hSl, ← hTl, Pl.len_list]
            have HTl : Hid (T.data.toList = S) := hTl
            have hll2 : T.data.toList.length = T.size := Pl.len_list T
            clear hT hTl hE htk hown hcut hval hbl hjl hownj hSl
            have hT5 : T.size ≤ 100000 := by omega
            have hownA := Own.made wr.heap.size wr (Nat.le_refl _)
            have hBA : Below wr.heap.size wr (wr.alloc (.cells #[] 5)) := (Below.refl _ _).alloc (Nat.le_refl _) _
            go_wp2_with (go_at_call 8; go_must (refine hB.mono ?_; rintro e w3 ⟨rfl, rfl⟩))
            clear hbk hB hcell
            obtain ⟨V, hV⟩ : ∃ V, V = wr := ⟨_, rfl⟩
            subst hV
            have hresV := (hb.block w.heap.size (by omega)).trans hres0
            have hbV := hbel0.trans (hb.mono hbel0.size)
            have hVs := heap_lt hresV
            go_loopw [6, 7] (fun v i wr => ∃ (n : Nat) (q : List UInt8), n ≤ T.size + 2 ∧ i = .int .i64 n ∧ q.length ≤ n ∧ Hid (Pl.p2 q (T.data.toList.drop n) = X) ∧ Own V.heap.size v q wr ∧ Below V.heap.size V wr) (fun _ i _ => T.size + 3 - (Lib.intOf i).toNat)
            case atStart => exact ⟨0, [], Nat.zero_le _, rfl, by simp, show _ = _ by rw [List.drop_zero, HTl.out]; exact HX.out, hownA, hBA⟩
            case round =>
              obtain ⟨n, q, hn, rfl, hql, hp2, hownq, hbq⟩ := hrel
              have hresq := (hbq.block w.heap.size hVs).trans hresV
              have hbwq := hbV.trans (hbq.mono hbV.size)
              by_cases hlt2 : n < T.size
              · have hat := Pl.at_list T n hlt2
                have h8 : T[n].toNat < 256 := UInt8.toNat_lt _
                by_cases hc : T[n] = 61
                · have hci : (T[n].toNat : Int) = 61 := by rw [hc]; rfl
                  have hEA := specEndAt T (n + 1) (by omega) (by omega) wr
                  by_cases hsoft : T.data.toList.length ≤ n + 1 ∨ Pl.crlf T.data.toList (n + 1) = true
                  · have hE3 : Hid (Pl.p2 q (T.data.toList.drop (n + 3)) = X) := show _ = _ from Pl.p2_soft (by omega) (hat.trans hc) hsoft hp2.out
                    have hsb : (decide (T.size ≤ n + 1) || Pl.crlf T.data.toList (n + 1)) = true := by
                      rcases hsoft with h1 | h1
                      · simp; left; omega
                      · simp [h1]
                    rw [hsb] at hEA
                    clear hsoft hsb hp2 hat hc
                    go_wp2_with (go_at_call 7; go_must (refine hEA.mono ?_; rintro e w3 ⟨rfl, rfl⟩))
                    go_roundw
                    case rel => exact ⟨n + 3, _, by omega, by go_num, by omega, hE3, hownq, hbq⟩
                    case measure => simp [Lib.intOf]; omega
                  · have hsb : (decide (T.size ≤ n + 1) || Pl.crlf T.data.toList (n + 1)) = false := by
                      rw [not_or] at hsoft
                      have h1 : ¬ T.size ≤ n + 1 := by omega
                      simp [h1, hsoft.2]
                    rw [hsb] at hEA
                    have hbad := fun h => Pl.p2_bad (by omega) (hat.trans hc) hsoft h hp2.out
                    have hhex := fun m h => Pl.p2_hex (n := m) (by omega) (hat.trans hc) hsoft h hp2.out
                    clear hsb hp2 hat hc hsoft
                    by_cases hroom : n + 2 < T.size
                    · have hA := fun w => specHex (T[n + 1]'(by omega)) w
                      have hBx := fun w => specHex (T[n + 2]'(by omega)) w
                      have hx2 := Pl.hex2_at T.data.toList n (by omega)
                      rw [Pl.at_list T (n + 1) (by omega), Pl.at_list T (n + 2) hroom] at hx2
                      generalize haq : T[n + 1]'(by omega) = a at *
                      generalize hbq2 : T[n + 2]'(by omega) = b at *
                      cases hva : Pl.hexV a with
                      | none =>
                        have hE3 : Hid (X = none) := show _ = _ from hbad (by rw [hx2, hva])
                        rw [Pl.hexI_none hva] at hA
                        clear hbad hhex hx2 hva hBx
                        go_wp2_with fail
                        refine hEA.mono ?_
                        rintro e w3 ⟨rfl, rfl⟩
                        go_wp2_with fail
                        refine (hA _).mono ?_
                        rintro e w3 ⟨rfl, rfl⟩
                        go_wp2_with (first | (refine wpL_store_row rfl 23 _ _ rfl w.heap.size #[.bool false, .string ⟨#[]⟩] rfl rfl 23 _ hresq (by kernel_rfl) rfl (by simp [Value.oneCell']) ?_) | go_in)
                        rw [hE3.out]
                        exact retS _ _ _ _ rfl hresq hbwq
                      | some d =>
                        have hd16 := Pl.hexV_lt hva
                        rw [Pl.hexI_some hva] at hA
                        cases hvb : Pl.hexV b with
                        | none =>
                          have hE3 : Hid (X = none) := show _ = _ from hbad (by rw [hx2, hva, hvb])
                          rw [Pl.hexI_none hvb] at hBx
                          clear hbad hhex hx2 hva hvb
                          go_wp2_with fail
                          refine hEA.mono ?_
                          rintro e w3 ⟨rfl, rfl⟩
                          go_wp2_with fail
                          refine (hA _).mono ?_
                          rintro e w3 ⟨rfl, rfl⟩
                          go_wp2_with fail
                          refine (hBx _).mono ?_
                          rintro e w3 ⟨rfl, rfl⟩
                          go_wp2_with (first | (refine wpL_store_row rfl 23 _ _ rfl w.heap.size #[.bool false, .string ⟨#[]⟩] rfl rfl 23 _ hresq (by kernel_rfl) rfl (by simp [Value.oneCell']) ?_) | go_in)
                          rw [hE3.out]
                          exact retS _ _ _ _ rfl hresq hbwq
                        | some e2 =>
                          have he16 := Pl.hexV_lt hvb
                          rw [Pl.hexI_some hvb] at hBx
                          have hE3 : Hid (Pl.p2 (q ++ [UInt8.ofNat (d * 16 + e2)]) (T.data.toList.drop (n + 3)) = X) := show _ = _ from hhex _ (by rw [hx2, hva, hvb])
                          clear hbad hhex hx2 hva hvb
                          go_wp2_with fail
                          refine hEA.mono ?_
                          rintro e w3 ⟨rfl, rfl⟩
                          go_wp2_with fail
                          refine (hA _).mono ?_
                          rintro e w3 ⟨rfl, rfl⟩
                          go_wp2_with fail
                          refine (hBx _).mono ?_
                          rintro e w3 ⟨rfl, rfl⟩
                          go_wp2_with fail
                          have hnum : IntKind.i64.wrap ((d : Int) * 16) = (d : Int) * 16 := by rw [IntKind.wrap_i64]; omega
                          have hnum2 : IntKind.i64.wrap ((d : Int) * 16 + (e2 : Int)) = (d : Int) * 16 + (e2 : Int) := by rw [IntKind.wrap_i64]; omega
                          have hnum3 : IntKind.i64.wrap ((n : Int) + 1) = (n : Int) + 1 := by rw [IntKind.wrap_i64]; omega
                          have hnum4 : IntKind.i64.wrap ((n : Int) + 2) = (n : Int) + 2 := by rw [IntKind.wrap_i64]; omega
                          have hnum5 : IntKind.u8.wrap ((d : Int) * 16 + (e2 : Int)) = (d : Int) * 16 + (e2 : Int) := by unfold IntKind.wrap; simp [IntKind.bits, IntKind.signed]; omega
                          have hidx2 : ∀ h, T[((n : Int) + 2).toNat]'h = b := fun h => (at_toNat T _ (n + 2) (by omega) h hroom).trans hbq2
                          have hsz3 := hbq.size
                          have hcf := cell_fresh w3 (.int .u8 ((d : Int) * 16 + (e2 : Int))) 5
                          refine wp_region_any (by kernel_rfl) ?_
                          refine wpAny_take (i := 0) (v := u6) rfl (by kernel_rfl) (by kernel_rfl) (by kernel_rfl) (fun _ _ _ h => h) (Or.inl ⟨by rfl, ?_⟩) ?_
                          · intro w
                            go_simp
                          go_simp
                          refine wpAny_take (i := 1) (v := .string T) rfl (by kernel_rfl) (by kernel_rfl) (by kernel_rfl) (fun _ _ _ h => h) (Or.inl ⟨by rfl, ?_⟩) ?_
                          · intro w
                            go_simp
                          go_simp
                          refine wpAny_take (i := 2) (v := .int .i64 n) rfl (by kernel_rfl) (by kernel_rfl) (by kernel_rfl) (fun _ _ _ h => h) (Or.inl ⟨by rfl, ?_⟩) ?_
                          · intro w
                            go_simp
                          go_simp
                          refine wpAny_take (i := 3) (v := .int .i64 ((n : Int) + 1)) rfl (by kernel_rfl) (by kernel_rfl) (by kernel_rfl) (fun _ _ _ h => h) (Or.inl ⟨by rfl, ?_⟩) ?_
                          · intro w
                            go_simp
                          go_simp
                          refine wpAny_take (i := 4) (v := .int .u8 (a.toNat : Int)) rfl (by kernel_rfl) (by kernel_rfl) (by kernel_rfl) (fun _ _ _ h => h) (Or.inl ⟨by rfl, ?_⟩) ?_
                          · intro w
                            go_simp
                          go_simp
                          refine wpAny_take (i := 7) (v := .string T) rfl (by kernel_rfl) (by kernel_rfl) (by kernel_rfl) (fun _ _ _ h => h) (Or.inl ⟨by rfl, ?_⟩) ?_
                          · intro w
                            go_simp
                          go_simp
                          refine wpAny_take (i := 8) (v := .int .i64 n) rfl (by kernel_rfl) (by kernel_rfl) (by kernel_rfl) (fun _ _ _ h => h) (Or.inl ⟨by rfl, ?_⟩) ?_
                          · intro w
                            go_simp
                          go_simp
                          refine wpAny_take (i := 9) (v := .int .i64 ((n : Int) + 2)) rfl (by kernel_rfl) (by kernel_rfl) (by kernel_rfl) (fun _ _ _ h => h) (Or.inl ⟨by rfl, ?_⟩) ?_
                          · intro w
                            go_simp
                          go_simp
                          refine wpAny_take (i := 10) (v := .int .u8 (b.toNat : Int)) rfl (by kernel_rfl) (by kernel_rfl) (by kernel_rfl) (fun _ _ _ h => h) (Or.inl ⟨by rfl, ?_⟩) ?_
                          · intro w
                            go_simp
                          go_simp
                          refine wpAny_ready (rs := [5]) (by kernel_rfl) (by simp) ?_
                          refine AllReady.cons rfl (fun K hK => ?_) AllReady.nil
                          go_simp
                          go_wp2_with fail
                          refine (hA _).mono ?_
                          rintro e w4 ⟨rfl, rfl⟩
                          show K _ _
                          refine hK _ _ ?_
                          clear hK K
                          go_simp
                          refine wpAny_take (i := 6) (v := .int .i64 ((d : Int) * 16)) rfl (by kernel_rfl) (by kernel_rfl) (by kernel_rfl) (fun _ _ _ h => h) (Or.inl ⟨by rfl, ?_⟩) ?_
                          · intro w
                            go_simp
                          go_simp
                          refine wpAny_ready (rs := [11]) (by kernel_rfl) (by simp) ?_
                          refine AllReady.cons rfl (fun K hK => ?_) AllReady.nil
                          go_simp
                          go_wp2_with fail
                          refine (hBx _).mono ?_
                          rintro e w4 ⟨rfl, rfl⟩
                          show K _ _
                          refine hK _ _ ?_
                          clear hK K
                          go_simp
                          refine wpAny_take (i := 12) (v := .int .i64 ((d : Int) * 16 + (e2 : Int))) rfl (by kernel_rfl) (by kernel_rfl) (by kernel_rfl) (fun _ _ _ h => h) (Or.inl ⟨by rfl, ?_⟩) ?_
                          · intro w
                            go_simp
                          go_simp
                          refine wpAny_take (i := 13) (v := .int .u8 ((d : Int) * 16 + (e2 : Int))) rfl (by kernel_rfl) (by kernel_rfl) (by kernel_rfl) (fun _ _ _ h => h) (Or.inl ⟨by rfl, ?_⟩) ?_
                          · intro w
                            go_simp
                          go_simp
                          refine wpAny_ready (rs := [14]) (by kernel_rfl) (by simp) ?_
                          refine AllReady.cons rfl (fun K hK => ?_) AllReady.nil
                          go_simp
                          refine hK _ _ ?_
                          clear hK K
                          go_simp
                          refine wpAny_ready (rs := [15]) (by kernel_rfl) (by simp) ?_
                          refine AllReady.cons rfl (fun K hK => ?_) AllReady.nil
                          refine wp_append_own _ _ _ 27 rfl V.heap.size 5 i0 (.int .u8 0) 1 1 Tryd.underlying27 hi hy0 hy1 hy2 rfl (by decide) u6 q.length (byteCells q) rfl (World.ownsRow.alloc (World.ownsRow.drew hownq) _) ⟨w3.heap.size, 0, none⟩ 1 1 [.int .u8 ((d : Int) * 16 + (e2 : Int))] rfl rfl (by intro j u hj; match j, hj with | 0, hj => cases hj; exact hcf) (by intro u hu; simp at hu; subst hu; rfl) (by unfold maxLen; omega) (by omega) (by simp; omega) ?_
                          intro v5 w5 ho5 hg5 _
                          refine hK _ _ ?_
                          clear hK K
                          go_simp
                          refine wpAny_take (i := 16) (v := v5) rfl (by kernel_rfl) (by kernel_rfl) (by kernel_rfl) (fun _ _ _ h => h) (Or.inl ⟨by rfl, ?_⟩) ?_
                          · intro w
                            go_simp
                          go_simp
                          refine wpAny_done (by kernel_rfl) ?_ _
                          have hown5 : Own V.heap.size v5 (q ++ [UInt8.ofNat (d * 16 + e2)]) w5 := by
                            unfold Own
                            rw [byteCells_append, List.length_append]
                            rw [show byteCells [UInt8.ofNat (d * 16 + e2)] = [.int .u8 ((d : Int) * 16 + (e2 : Int))] by simp [byteCells]; omega]
                            exact ho5
                          have hb5 : Below V.heap.size V w5 := (hbq.drew.alloc (by simp; omega) _).grown hg5 (by simp; omega) (fun k hk => (World.ownsRow.lt hownq k hk).1)
                          clear ho5 hg5
                          go_wp2
                          go_roundw
                          case rel => exact ⟨n + 3, _, by omega, by go_num, by simp; omega, hE3, hown5, hb5⟩
                          case measure => simp [Lib.intOf]; omega
                    · have hE3 : Hid (X = none) := show _ = _ from hbad (Pl.hex2_short (by rw [List.length_drop]; omega))
                      clear hbad hhex
                      go_wp2_with (first | (go_at_call 7; go_must (refine hEA.mono ?_; rintro e w3 ⟨rfl, rfl⟩)) | (refine wpL_store_row rfl 23 _ _ rfl w.heap.size #[.bool false, .string ⟨#[]⟩] rfl rfl 23 _ hresq (by kernel_rfl) rfl (by simp [Value.oneCell']) ?_))
                      rw [hE3.out]
                      exact retS _ _ _ _ rfl hresq hbwq
                · have hE3 : Hid (Pl.p2 (q ++ [T[n]]) (T.data.toList.drop (n + 1)) = X) := show _ = _ by have := Pl.p2_plain (by omega) (by rw [hat]; exact hc) hp2.out; rw [hat] at this; exact this
                  have hci : ¬ (T[n].toNat : Int) = 61 := fun h => hc (UInt8.toNat_inj.1 (by simpa using (by omega : T[n].toNat = 61)))
                  clear hp2 hat hc
                  go_wp2_with (at_builtin; go_must (refine wp_app (W := V) rfl _ _ 27 rfl i0 Tryd.underlying27 hi hy0 hy1 hy2 V.heap.size u6 q rfl hownq _ [T[n]] (by simp [byteCells]) 1 1 rfl rfl (by simp; omega) (Nat.le_refl _) hbq ?_; intro v3 w3 hown3 hb3))
                  go_roundw
                  case rel => exact ⟨n + 1, _, by omega, by go_num, by simp; omega, hE3, hown3, hb3⟩
                  case measure => simp [Lib.intOf]; omega
              · have hE3 : Hid (X = some q) := show _ = _ from Pl.p2_done (by omega) hp2.out
                clear hp2
                have hbk := hownq.back (P := Tryd.prog) 27 9 Tryd.underlying27 Tryd.underlying5 Tryd.underlying9
                go_wp2_with (first | (refine wpL_store_row rfl 23 _ _ rfl w.heap.size #[.bool true, .string ⟨q.toArray⟩] rfl rfl 23 _ hresq (by kernel_rfl) rfl (by simp [Value.oneCell']) ?_) | go_in)
                rw [hE3.out]
                exact retS _ _ _ _ rfl hresq hbwq
          · have hE2 : Hid (Pl.tk p j = Pl.tk p p.length) := show _ = _ by rw [← htk.out, tk_step_yes (by rw [hval]; exact hbl)]
            have hcj := hownj.caps
            rw [hjl] at hcj
            rw [hbl] at hB
            generalize p[j]'(by omega) = c at hB hcell
            rw [hjl] at hownj ⊢
            clear htk hown hval hbl
            go_wp2_with (go_at_call 8; go_must (refine hB.mono ?_; rintro e w3 ⟨rfl, rfl⟩))
            exact ⟨⟨j, by omega, hcut, hE2, trivial⟩, Nat.lt_succ_self _⟩
end Go.Proofs.YtkchnlfedkfpjaaDoor
