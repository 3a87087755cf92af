
/- The specification's TableFault. -/
import Derived.Test.YtgmjbgnjmpllmaaScoreWord
import Derived.Test.YtgmjbgnjmpllmaaScoreBad
namespace Go.Proofs.Ytgmjbgnjmpllmaa
open Go.RowKit Go.Lib Go.Maps
namespace Sc
def less (p : Option ByteArray) (t : ByteArray) : Bool := match p with | none => true | some q => Op.bytesLess q.toList t.toList
def okRow (g b : Int) (p : Option ByteArray) (c : Wc) : Bool := word c.word && (less p c.word && (decide (0 ≤ c.good) && (decide (c.good ≤ g) && (decide (0 ≤ c.bad) && (decide (c.bad ≤ b) && !(c.good + c.bad == 0))))))
def rows (g b : Int) : Option ByteArray → List Wc → Bool
  | _, [] => true
  | p, c :: r => okRow g b p c && rows g b (some c.word) r
def okT (g b : Int) (F : List Wc) : Bool := decide (0 ≤ g) && (decide (g ≤ 1000000) && (decide (0 ≤ b) && (decide (b ≤ 1000000) && (decide (F.length ≤ 1000) && rows g b none F))))
def code (b : Bool) : Int := if b then 0 else 1
theorem rows_step (g b : Int) (p : Option ByteArray) (F : List Wc) (i : Nat) (h : i < F.length) : rows g b p (F.drop i) = (okRow g b p F[i] && rows g b (some F[i].word) (F.drop (i + 1))) := by
  rw [List.drop_eq_getElem_cons h, rows]
end Sc
set_option maxHeartbeats 40000000 in
set_option maxRecDepth 20000 in
theorem specTable (g b : Int) (o : Option Addr) (F : List Wc) (cap : Nat) (w : World) (hF : Wcs w.heap.size w o F) (hlF : F.length ≤ 1048576) (hfit : ∀ c ∈ F, c.word.size ≤ 1048576) :
    Calls Try.prog 10 #[tbV g b (.slice o F.length cap)] w fun e w' => e = .returned (.int .i64 (Sc.code (Sc.okT g b F))) ∧ Below w.heap.size w w' := by
  have HF := mkHw hF
  have Hfit := mkHw hfit
  clear hF hfit
  unfold tbV
  obtain ⟨Z, hZ⟩ : ∃ Z, Sc.code (Sc.okT g b F) = Z := ⟨_, rfl⟩
  rw [hZ]
  unfold Sc.okT at hZ
  by_cases a1 : 0 ≤ g
  · rw [decide_eq_true a1, Bool.true_and] at hZ
    by_cases a2 : g ≤ 1000000
    · rw [decide_eq_true a2, Bool.true_and] at hZ
      by_cases a3 : 0 ≤ b
      · rw [decide_eq_true a3, Bool.true_and] at hZ
        by_cases a4 : b ≤ 1000000
        · rw [decide_eq_true a4, Bool.true_and] at hZ
          by_cases a5 : F.length ≤ 1000
          · rw [decide_eq_true a5, Bool.true_and] at hZ
            have x10 : decide (g < 0) = false := decide_eq_false (by omega)
            have x11 : decide (1000000 < g) = false := decide_eq_false (by omega)
            have x12 : decide (b < 0) = false := decide_eq_false (by omega)
            have x13 : decide (1000000 < b) = false := decide_eq_false (by omega)
            have x14 : decide ((1000 : Int) < (F.length : Int)) = false := decide_eq_false (by omega)
            have hbA : Below w.heap.size w (w.alloc (.cells #[.int .i64 g, .int .i64 b, .slice o F.length cap] 29)) := (Below.refl _ _).alloc (Nat.le_refl _) _
            obtain ⟨W, hW⟩ : ∃ W, W = w.alloc (.cells #[.int .i64 g, .int .i64 b, .slice o F.length cap] 29) := ⟨_, rfl⟩
            have t0 : W.cell? ⟨w.heap.size, 0, none⟩ = some (.int .i64 g) := by rw [hW]; simp
            have t1 : W.cell? ⟨w.heap.size, 1, none⟩ = some (.int .i64 b) := by rw [hW]; simp
            have t2 : W.cell? ⟨w.heap.size, 2, none⟩ = some (.slice o F.length cap) := by rw [hW]; simp
            have hWs : w.heap.size < W.heap.size := by rw [hW]; simp
            rw [← hW] at hbA
            have HW := mkHw hW
            have HZ : Hid (Sc.code (Sc.rows g b none (F.drop 0)) = Z) := by rw [List.drop_zero]; exact hZ
            clear hW hZ
            go_enter Try.func10, Try.ntmps10
            go_wp2
            rw [← HW.out]
            clear HW
            generalize hG : w.heap.size = G at *
            go_loopw [3] (fun iv wr => ∃ (i : Nat) (p : Option ByteArray), i ≤ F.length ∧ iv = .int .i64 i ∧ Hid (Sc.code (Sc.rows g b p (F.drop i)) = Z) ∧ Hid ((i = 0 ∧ p = none) ∨ ∃ (j : Nat) (h : j < F.length), i = j + 1 ∧ p = some F[j].word) ∧ Below W.heap.size W wr) (fun iv _ => F.length - (Lib.intOf iv).toNat)
            case atStart => exact ⟨0, none, Nat.zero_le _, rfl, HZ, .inl ⟨rfl, rfl⟩, Below.refl _ _⟩
            case round =>
              clear HZ
              obtain ⟨i, p, hi, rfl, hz, hp, hb⟩ := hrel
              have hGr : G < wr.heap.size := Nat.lt_of_lt_of_le hWs hb.size
              have r0 := (hb.cell (p := ⟨G, 0, none⟩) hWs).trans t0
              have r1 := (hb.cell (p := ⟨G, 1, none⟩) hWs).trans t1
              have r2 := (hb.cell (p := ⟨G, 2, none⟩) hWs).trans t2
              by_cases hlt : i < F.length
              · have hbB := hbA.trans (hb.mono (Nat.le_of_lt hWs))
                obtain ⟨a, rfl, ha, hA⟩ := (HF.out.below hbB) i hlt
                have c0 := hA.c0
                have c1 := hA.c1
                have c2 := hA.c2
                have hz1 := hz.out
                rw [Sc.rows_step g b p F i hlt] at hz1
                replace hz1 := mkHw hz1
                have hnf := mkHw (Hfit.out F[i] (List.getElem_mem hlt))
                obtain ⟨n, hn⟩ : ∃ n, F[i] = n := ⟨_, rfl⟩
                have hnw : Hid (some n.word = some F[i].word) := by rw [← hn]; rfl
                rw [hn] at c0 c1 c2 hz1 hnf
                obtain ⟨V, hV⟩ : ∃ V, V = wr.alloc (.cells #[.string n.word, .int .i64 n.good, .int .i64 n.bad] 47) := ⟨_, rfl⟩
                have q0 : V.cell? ⟨wr.heap.size, 0, none⟩ = some (.string n.word) := by rw [hV]; simp
                have q1 : V.cell? ⟨wr.heap.size, 1, none⟩ = some (.int .i64 n.good) := by rw [hV]; simp
                have q2 : V.cell? ⟨wr.heap.size, 2, none⟩ = some (.int .i64 n.bad) := by rw [hV]; simp
                have hbV : Below wr.heap.size wr V := by rw [hV]; exact (Below.refl _ _).alloc (Nat.le_refl _) _
                have hVs : wr.heap.size < V.heap.size := by rw [hV]; simp
                have hbr := hb.trans (hbV.mono hb.size)
                have s0 := (hbV.cell (p := ⟨G, 0, none⟩) hGr).trans r0
                have s1 := (hbV.cell (p := ⟨G, 1, none⟩) hGr).trans r1
                have s2 := (hbV.cell (p := ⟨G, 2, none⟩) hGr).trans r2
                have k0 := q0
                have k1 := q1
                have k2 := q2
                have hWr := hb.size
                have hilt : Hid (i < F.length) := hlt
                clear hz hA q0 q1 q2
                rcases hp.out with ⟨rfl, rfl⟩ | ⟨j, hj, rfl, rfl⟩
                · have hn0 := mkHw hn
                  have ea0 : a.add (0 * 3) = a := by simp [Addr.add]
                  rw [ea0] at c0 c1 c2
                  clear hn hp ea0
                  have cW : Hid (∀ n', Calls Try.prog 18 #[.string n.word] (V.drewN n') fun e w'' => e = .returned (.bool (Sc.word n.word)) ∧ ∃ m, w'' = V.drewN m) := fun n' => Calls.quiet_of_same ((specWord n.word _ hnf.out).mono fun e w' ⟨h1, h2⟩ => ⟨h1, h2.symm⟩)
                  have hV' := mkHw hV
                  clear hV
                  go_wp2
                  rw [← hV'.out]
                  clear hV'
                  by_cases hw : Sc.word n.word = true
                  · rw [hw] at cW
                    have hls : Sc.less none n.word = true := rfl
                    by_cases h3 : 0 ≤ n.good
                    · by_cases h4 : n.good ≤ g
                      · by_cases h5 : 0 ≤ n.bad
                        · by_cases h6 : n.bad ≤ b
                          · have x0 : decide (n.good < 0) = false := decide_eq_false (by omega)
                            have x1 : decide (g < n.good) = false := decide_eq_false (by omega)
                            have x2 : decide (n.bad < 0) = false := decide_eq_false (by omega)
                            have x3 : decide (b < n.bad) = false := decide_eq_false (by omega)
                            have hws : IntKind.i64.wrap (n.good + n.bad) = n.good + n.bad := wrap_inW _ (by omega) (by omega)
                            by_cases h7 : n.good + n.bad = 0
                            · have x7 : (n.good + n.bad == 0) = true := by rw [beq_iff_eq]; exact h7
                              replace h7 := mkHw h7
                              have hr : Hid (Z = 1) := by
                                show Z = 1
                                rw [← hz1.out]
                                unfold Sc.okRow
                                rw [hw, hls, decide_eq_true h3, decide_eq_true h4, decide_eq_true h5, decide_eq_true h6, x7]
                                simp [Sc.code]
                              clear hz1
                              go_quiet (exact cW.out _)
                              have hbq := mkHw (below_drewN hbr nq)
                              clear s0 s1 s2 k0 k1 k2 cW
                              go_wp2
                              go_ret
                              first | rw [hr.out, hG] | rw [hr.out]
                              exact ⟨rfl, hbA.trans (hbq.out.mono (Nat.le_of_lt hWs))⟩
                            · have x7 : (n.good + n.bad == 0) = false := by rw [beq_eq_false_iff_ne]; exact h7
                              replace h7 := mkHw h7
                              have hr : Hid (Sc.code (Sc.rows g b (some n.word) (F.drop (0 + 1))) = Z) := by
                                show _ = Z
                                rw [← hz1.out]
                                unfold Sc.okRow
                                rw [hw, hls, decide_eq_true h3, decide_eq_true h4, decide_eq_true h5, decide_eq_true h6, x7]
                                rfl
                              clear hz1
                              go_quiet (exact cW.out _)
                              have hbq := mkHw (below_drewN hbr nq)
                              clear s0 s1 s2 k0 k1 k2 cW
                              go_wp2
                              go_roundw
                              case rel => exact ⟨1, some n.word, by omega, by go_num, hr, .inr ⟨0, hilt.out, rfl, hnw.out⟩, hbq.out⟩
                              case measure => simp [Lib.intOf]; omega
                          · have x0 : decide (n.good < 0) = false := decide_eq_false (by omega)
                            have x1 : decide (g < n.good) = false := decide_eq_false (by omega)
                            have x2 : decide (n.bad < 0) = false := decide_eq_false (by omega)
                            have x3 : decide (b < n.bad) = true := decide_eq_true (by omega)
                            have hr : Hid (Z = 1) := by
                              show Z = 1
                              rw [← hz1.out]
                              unfold Sc.okRow
                              rw [hw, hls, decide_eq_true h3, decide_eq_true h4, decide_eq_true h5, decide_eq_false h6]
                              simp [Sc.code]
                            clear hz1
                            go_quiet (exact cW.out _)
                            have hbq := mkHw (below_drewN hbr nq)
                            clear s0 s1 s2 k0 k1 k2 cW
                            go_wp2
                            go_ret
                            first | rw [hr.out, hG] | rw [hr.out]
                            exact ⟨rfl, hbA.trans (hbq.out.mono (Nat.le_of_lt hWs))⟩
                        · have x0 : decide (n.good < 0) = false := decide_eq_false (by omega)
                          have x1 : decide (g < n.good) = false := decide_eq_false (by omega)
                          have x2 : decide (n.bad < 0) = true := decide_eq_true (by omega)
                          have hr : Hid (Z = 1) := by
                            show Z = 1
                            rw [← hz1.out]
                            unfold Sc.okRow
                            rw [hw, hls, decide_eq_true h3, decide_eq_true h4, decide_eq_false h5]
                            simp [Sc.code]
                          clear hz1
                          go_quiet (exact cW.out _)
                          have hbq := mkHw (below_drewN hbr nq)
                          clear s0 s1 s2 k0 k1 k2 cW
                          go_wp2
                          go_ret
                          first | rw [hr.out, hG] | rw [hr.out]
                          exact ⟨rfl, hbA.trans (hbq.out.mono (Nat.le_of_lt hWs))⟩
                      · have x0 : decide (n.good < 0) = false := decide_eq_false (by omega)
                        have x1 : decide (g < n.good) = true := decide_eq_true (by omega)
                        have hr : Hid (Z = 1) := by
                          show Z = 1
                          rw [← hz1.out]
                          unfold Sc.okRow
                          rw [hw, hls, decide_eq_true h3, decide_eq_false h4]
                          simp [Sc.code]
                        clear hz1
                        go_quiet (exact cW.out _)
                        have hbq := mkHw (below_drewN hbr nq)
                        clear s0 s1 s2 k0 k1 k2 cW
                        go_wp2
                        go_ret
                        first | rw [hr.out, hG] | rw [hr.out]
                        exact ⟨rfl, hbA.trans (hbq.out.mono (Nat.le_of_lt hWs))⟩
                    · have x0 : decide (n.good < 0) = true := decide_eq_true (by omega)
                      have hr : Hid (Z = 1) := by
                        show Z = 1
                        rw [← hz1.out]
                        unfold Sc.okRow
                        rw [hw, hls, decide_eq_false h3]
                        simp [Sc.code]
                      clear hz1
                      go_quiet (exact cW.out _)
                      have hbq := mkHw (below_drewN hbr nq)
                      clear s0 s1 s2 k0 k1 k2 cW
                      go_wp2
                      go_ret
                      first | rw [hr.out, hG] | rw [hr.out]
                      exact ⟨rfl, hbA.trans (hbq.out.mono (Nat.le_of_lt hWs))⟩
                  · replace hw : Sc.word n.word = false := by simpa only [Bool.not_eq_true] using hw
                    rw [hw] at cW
                    have hr : Hid (Z = 1) := by
                      show Z = 1
                      rw [← hz1.out]
                      unfold Sc.okRow
                      rw [hw]
                      simp [Sc.code]
                    clear hz1
                    go_quiet (exact cW.out _)
                    have hbq := mkHw (below_drewN hbr nq)
                    clear s0 s1 s2 k0 k1 k2 cW
                    go_wp2
                    go_ret
                    first | rw [hr.out, hG] | rw [hr.out]
                    exact ⟨rfl, hbA.trans (hbq.out.mono (Nat.le_of_lt hWs))⟩
                · obtain ⟨a', ea, ha', hA'⟩ := (HF.out.below hbB) j hj
                  cases ea
                  have p0 := hA'.c0
                  have hal : (a.add (j * 3)).block < wr.heap.size := by rw [add_blockW]; omega
                  have s3 := (hbV.cell (p := a.add (j * 3)) hal).trans p0
                  have hji : ((j + 1 : Nat) : Int) - 1 = (j : Int) := by omega
                  have hj0 : decide ((0 : Int) < ((j + 1 : Nat) : Int)) = true := by simp
                  have hwj : IntKind.i64.wrap (j : Int) = (j : Int) := wrap_inW _ (by omega) (by omega)
                  have hjI : (0 : Int) ≤ (j : Int) ∧ (j : Int) < (F.length : Int) := ⟨by omega, by omega⟩
                  have hn0 := mkHw hn
                  clear hA' p0 hn hp
                  generalize F[j].word = pw at *
                  have cW : Hid (∀ n', Calls Try.prog 18 #[.string n.word] (V.drewN n') fun e w'' => e = .returned (.bool (Sc.word n.word)) ∧ ∃ m, w'' = V.drewN m) := fun n' => Calls.quiet_of_same ((specWord n.word _ hnf.out).mono fun e w' ⟨h1, h2⟩ => ⟨h1, h2.symm⟩)
                  have hV' := mkHw hV
                  clear hV
                  go_wp2
                  rw [← hV'.out]
                  clear hV'
                  by_cases hw : Sc.word n.word = true
                  · rw [hw] at cW
                    by_cases hls : Sc.less (some pw) n.word = true
                    · have x8 : Op.bytesLess pw.toList n.word.toList = true := hls
                      by_cases h3 : 0 ≤ n.good
                      · by_cases h4 : n.good ≤ g
                        · by_cases h5 : 0 ≤ n.bad
                          · by_cases h6 : n.bad ≤ b
                            · have x0 : decide (n.good < 0) = false := decide_eq_false (by omega)
                              have x1 : decide (g < n.good) = false := decide_eq_false (by omega)
                              have x2 : decide (n.bad < 0) = false := decide_eq_false (by omega)
                              have x3 : decide (b < n.bad) = false := decide_eq_false (by omega)
                              have hws : IntKind.i64.wrap (n.good + n.bad) = n.good + n.bad := wrap_inW _ (by omega) (by omega)
                              by_cases h7 : n.good + n.bad = 0
                              · have x7 : (n.good + n.bad == 0) = true := by rw [beq_iff_eq]; exact h7
                                replace h7 := mkHw h7
                                have hr : Hid (Z = 1) := by
                                  show Z = 1
                                  rw [← hz1.out]
                                  unfold Sc.okRow
                                  rw [hw, hls, decide_eq_true h3, decide_eq_true h4, decide_eq_true h5, decide_eq_true h6, x7]
                                  simp [Sc.code]
                                clear hz1
                                go_quiet (exact cW.out _)
                                have hbq := mkHw (below_drewN hbr nq)
                                clear s0 s1 s2 k0 k1 k2 cW
                                go_wp2
                                go_ret
                                first | rw [hr.out, hG] | rw [hr.out]
                                exact ⟨rfl, hbA.trans (hbq.out.mono (Nat.le_of_lt hWs))⟩
                              · have x7 : (n.good + n.bad == 0) = false := by rw [beq_eq_false_iff_ne]; exact h7
                                replace h7 := mkHw h7
                                have hr : Hid (Sc.code (Sc.rows g b (some n.word) (F.drop (j + 1 + 1))) = Z) := by
                                  show _ = Z
                                  rw [← hz1.out]
                                  unfold Sc.okRow
                                  rw [hw, hls, decide_eq_true h3, decide_eq_true h4, decide_eq_true h5, decide_eq_true h6, x7]
                                  rfl
                                clear hz1
                                go_quiet (exact cW.out _)
                                have hbq := mkHw (below_drewN hbr nq)
                                clear s0 s1 s2 k0 k1 k2 cW
                                go_wp2
                                go_roundw
                                case rel => exact ⟨j + 1 + 1, some n.word, by omega, by go_num, hr, .inr ⟨j + 1, hilt.out, rfl, hnw.out⟩, hbq.out⟩
                                case measure => simp [Lib.intOf]; omega
                            · have x0 : decide (n.good < 0) = false := decide_eq_false (by omega)
                              have x1 : decide (g < n.good) = false := decide_eq_false (by omega)
                              have x2 : decide (n.bad < 0) = false := decide_eq_false (by omega)
                              have x3 : decide (b < n.bad) = true := decide_eq_true (by omega)
                              have hr : Hid (Z = 1) := by
                                show Z = 1
                                rw [← hz1.out]
                                unfold Sc.okRow
                                rw [hw, hls, decide_eq_true h3, decide_eq_true h4, decide_eq_true h5, decide_eq_false h6]
                                simp [Sc.code]
                              clear hz1
                              go_quiet (exact cW.out _)
                              have hbq := mkHw (below_drewN hbr nq)
                              clear s0 s1 s2 k0 k1 k2 cW
                              go_wp2
                              go_ret
                              first | rw [hr.out, hG] | rw [hr.out]
                              exact ⟨rfl, hbA.trans (hbq.out.mono (Nat.le_of_lt hWs))⟩
                          · have x0 : decide (n.good < 0) = false := decide_eq_false (by omega)
                            have x1 : decide (g < n.good) = false := decide_eq_false (by omega)
                            have x2 : decide (n.bad < 0) = true := decide_eq_true (by omega)
                            have hr : Hid (Z = 1) := by
                              show Z = 1
                              rw [← hz1.out]
                              unfold Sc.okRow
                              rw [hw, hls, decide_eq_true h3, decide_eq_true h4, decide_eq_false h5]
                              simp [Sc.code]
                            clear hz1
                            go_quiet (exact cW.out _)
                            have hbq := mkHw (below_drewN hbr nq)
                            clear s0 s1 s2 k0 k1 k2 cW
                            go_wp2
                            go_ret
                            first | rw [hr.out, hG] | rw [hr.out]
                            exact ⟨rfl, hbA.trans (hbq.out.mono (Nat.le_of_lt hWs))⟩
                        · have x0 : decide (n.good < 0) = false := decide_eq_false (by omega)
                          have x1 : decide (g < n.good) = true := decide_eq_true (by omega)
                          have hr : Hid (Z = 1) := by
                            show Z = 1
                            rw [← hz1.out]
                            unfold Sc.okRow
                            rw [hw, hls, decide_eq_true h3, decide_eq_false h4]
                            simp [Sc.code]
                          clear hz1
                          go_quiet (exact cW.out _)
                          have hbq := mkHw (below_drewN hbr nq)
                          clear s0 s1 s2 k0 k1 k2 cW
                          go_wp2
                          go_ret
                          first | rw [hr.out, hG] | rw [hr.out]
                          exact ⟨rfl, hbA.trans (hbq.out.mono (Nat.le_of_lt hWs))⟩
                      · have x0 : decide (n.good < 0) = true := decide_eq_true (by omega)
                        have hr : Hid (Z = 1) := by
                          show Z = 1
                          rw [← hz1.out]
                          unfold Sc.okRow
                          rw [hw, hls, decide_eq_false h3]
                          simp [Sc.code]
                        clear hz1
                        go_quiet (exact cW.out _)
                        have hbq := mkHw (below_drewN hbr nq)
                        clear s0 s1 s2 k0 k1 k2 cW
                        go_wp2
                        go_ret
                        first | rw [hr.out, hG] | rw [hr.out]
                        exact ⟨rfl, hbA.trans (hbq.out.mono (Nat.le_of_lt hWs))⟩
                    · replace hls : Sc.less (some pw) n.word = false := by simpa only [Bool.not_eq_true] using hls
                      have x8 : Op.bytesLess pw.toList n.word.toList = false := hls
                      have hr : Hid (Z = 1) := by
                        show Z = 1
                        rw [← hz1.out]
                        unfold Sc.okRow
                        rw [hw, hls]
                        simp [Sc.code]
                      clear hz1
                      go_quiet (exact cW.out _)
                      have hbq := mkHw (below_drewN hbr nq)
                      clear s0 s1 s2 k0 k1 k2 cW
                      go_wp2
                      go_ret
                      first | rw [hr.out, hG] | rw [hr.out]
                      exact ⟨rfl, hbA.trans (hbq.out.mono (Nat.le_of_lt hWs))⟩
                  · replace hw : Sc.word n.word = false := by simpa only [Bool.not_eq_true] using hw
                    rw [hw] at cW
                    have hr : Hid (Z = 1) := by
                      show Z = 1
                      rw [← hz1.out]
                      unfold Sc.okRow
                      rw [hw]
                      simp [Sc.code]
                    clear hz1
                    go_quiet (exact cW.out _)
                    have hbq := mkHw (below_drewN hbr nq)
                    clear s0 s1 s2 k0 k1 k2 cW
                    go_wp2
                    go_ret
                    first | rw [hr.out, hG] | rw [hr.out]
                    exact ⟨rfl, hbA.trans (hbq.out.mono (Nat.le_of_lt hWs))⟩
              · have hr : Hid (Z = 0) := by
                  show Z = 0
                  have := hz.out
                  rw [List.drop_eq_nil_of_le (by omega), Sc.rows] at this
                  exact this.symm
                go_wp2
                go_ret
                first | rw [hr.out, hG] | rw [hr.out]
                exact ⟨rfl, hbA.trans (hb.mono (Nat.le_of_lt hWs))⟩
          · rw [decide_eq_false a5, Bool.false_and] at hZ
            have x10 : decide (g < 0) = false := decide_eq_false (by omega)
            have x11 : decide (1000000 < g) = false := decide_eq_false (by omega)
            have x12 : decide (b < 0) = false := decide_eq_false (by omega)
            have x13 : decide (1000000 < b) = false := decide_eq_false (by omega)
            have x14 : decide ((1000 : Int) < (F.length : Int)) = true := decide_eq_true (by omega)
            replace hZ : Hid (Z = 1) := hZ.symm
            clear a1 a2 a3 a4 a5
            go_enter Try.func10, Try.ntmps10
            go_wp2
            go_ret
            rw [hZ.out]
            exact ⟨rfl, (Below.refl _ _).alloc (Nat.le_refl _) _⟩
        · rw [decide_eq_false a4, Bool.false_and] at hZ
          have x10 : decide (g < 0) = false := decide_eq_false (by omega)
          have x11 : decide (1000000 < g) = false := decide_eq_false (by omega)
          have x12 : decide (b < 0) = false := decide_eq_false (by omega)
          have x13 : decide (1000000 < b) = true := decide_eq_true (by omega)
          replace hZ : Hid (Z = 1) := hZ.symm
          clear a1 a2 a3 a4
          go_enter Try.func10, Try.ntmps10
          go_wp2
          go_ret
          rw [hZ.out]
          exact ⟨rfl, (Below.refl _ _).alloc (Nat.le_refl _) _⟩
      · rw [decide_eq_false a3, Bool.false_and] at hZ
        have x10 : decide (g < 0) = false := decide_eq_false (by omega)
        have x11 : decide (1000000 < g) = false := decide_eq_false (by omega)
        have x12 : decide (b < 0) = true := decide_eq_true (by omega)
        replace hZ : Hid (Z = 1) := hZ.symm
        clear a1 a2 a3
        go_enter Try.func10, Try.ntmps10
        go_wp2
        go_ret
        rw [hZ.out]
        exact ⟨rfl, (Below.refl _ _).alloc (Nat.le_refl _) _⟩
    · rw [decide_eq_false a2, Bool.false_and] at hZ
      have x10 : decide (g < 0) = false := decide_eq_false (by omega)
      have x11 : decide (1000000 < g) = true := decide_eq_true (by omega)
      replace hZ : Hid (Z = 1) := hZ.symm
      clear a1 a2
      go_enter Try.func10, Try.ntmps10
      go_wp2
      go_ret
      rw [hZ.out]
      exact ⟨rfl, (Below.refl _ _).alloc (Nat.le_refl _) _⟩
  · rw [decide_eq_false a1, Bool.false_and] at hZ
    have x10 : decide (g < 0) = true := decide_eq_true (by omega)
    replace hZ : Hid (Z = 1) := hZ.symm
    clear a1
    go_enter Try.func10, Try.ntmps10
    go_wp2
    go_ret
    rw [hZ.out]
    exact ⟨rfl, (Below.refl _ _).alloc (Nat.le_refl _) _⟩
end Go.Proofs.Ytgmjbgnjmpllmaa
