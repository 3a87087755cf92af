
/- The program's ClientText. -/
import Derived.Test.YthgjflgidalmlaaDoorImplClient1
import Derived.Test.YthgjflgidalmlaaDoorImplClient2
import Derived.Test.YthgjflgidalmlaaDoorSpecClientText
namespace Go.Proofs.YthgjflgidalmlaaDoor
open Go.RowKit Go.Lib Go.Maps
set_option maxRecDepth 20000 in
theorem OwnX.apartC {B : Nat} {v : Value} {C : List ByteArray} {w : World} {G t : Nat} {cs : Array Value} {z : Nat × Nat} (h : OwnX B v C w) (hu : w.heap[G]? = some (.cells cs t z)) (ht : t ≠ 9) : some G ≠ v.ownBlock := by
  rcases h.2 with ⟨rfl, -⟩ | ⟨g, cap, cur, rfl, -, hg, -⟩
  · simp [Value.ownBlock]
  · intro e
    simp only [Value.ownBlock, Option.some.injEq] at e
    subst e
    rw [hu] at hg
    simp only [Option.some.injEq, Obj.cells.injEq] at hg
    exact ht hg.2.1
set_option maxRecDepth 20000 in
theorem OwnX.cellsC {B : Nat} {v : Value} {C : List ByteArray} {w : World} (h : OwnX B v C w) (h0 : 0 < C.length) : ∃ g c, v = .slice (some ⟨g, 0, none⟩) C.length c ∧ g < w.heap.size ∧ C.length ≤ c ∧ ∀ (j : Nat) x, C[j]? = some x → w.cell? ⟨g, 0 + j, none⟩ = some (.string x) := by
  have hl := World.ownsRow.lt h
  have h2 := h.2
  rcases h2 with ⟨-, hn⟩ | ⟨g, cap, cur, h1, hB, hg, hc, -⟩
  · omega
  · subst h1
    refine ⟨g, cap, rfl, (hl g rfl).2, hc, fun j x hj => ?_⟩
    have h9 := World.ownsRow.cells h (g := g) rfl j (.string x) (by rw [strCellsX, List.getElem?_map, hj]; rfl)
    rw [add_off] at h9
    rw [Nat.zero_add]
    exact h9
namespace Ct
def P (n : ByteArray) (M : List GAccepted) (k : Nat) : List ByteArray := [ehloA, n, nl] ++ ((M.take k).map mailT).flatten
set_option maxRecDepth 20000 in
theorem P_next (n : ByteArray) (M : List GAccepted) (k : Nat) (h : k < M.length) : P n M (k + 1) = P n M k ++ mailT M[k] := by
  unfold P
  rw [List.take_succ_eq_append_getElem h, List.map_append, List.flatten_append]
  simp
set_option maxRecDepth 20000 in
theorem P_end (n : ByteArray) (M : List GAccepted) (k : Nat) (h : M.length ≤ k) : P n M k ++ [⟨#[81, 85, 73, 84]⟩, nl] = txts n M := by
  unfold P txts
  rw [List.take_of_length_le h]
def Q (F : List ByteArray) (k : Nat) : List ByteArray := ((F.take k).map rcT).flatten
set_option maxRecDepth 20000 in
theorem Q_next (F : List ByteArray) (k : Nat) (h : k < F.length) : Q F (k + 1) = Q F k ++ [rcptA, F[k], gt, nl] := by
  unfold Q
  rw [List.take_succ_eq_append_getElem h, List.map_append, List.flatten_append]
  simp [rcT]
set_option maxRecDepth 20000 in
theorem Q_len (F : List ByteArray) (k : Nat) : (Q F k).length ≤ 4 * k := by
  unfold Q
  have : ∀ G : List ByteArray, ((G.map rcT).flatten).length = 4 * G.length := by
    intro G
    induction G with
    | nil => rfl
    | cons a r ih => rw [List.map_cons, List.flatten_cons, List.length_append, ih]; simp [rcT]; omega
  rw [this, List.length_take]
  omega
set_option maxRecDepth 20000 in
theorem mail_eq (m : GAccepted) (k : Nat) (h : m.toF.length ≤ k) : [mailA, m.fromF, gt, nl] ++ Q m.toF k ++ [⟨#[68, 65, 84, 65]⟩, nl, stT m] = mailT m := by
  unfold Q mailT
  rw [List.take_of_length_le h]
set_option maxRecDepth 20000 in
theorem snd_parts (m : GAccepted) (h : snd m = true) : m.toF.length ≤ 100 ∧ m.message.size ≤ 100000 := by
  unfold snd at h
  simp only [Bool.and_eq_true, decide_eq_true_eq] at h
  exact ⟨h.2.2.1, h.2.2.2.2.2.1⟩
set_option maxRecDepth 20000 in
theorem P_len (n : ByteArray) (M : List GAccepted) (k : Nat) (hk : k ≤ 100) (h : ∀ m ∈ M, snd m = true) : (P n M k).length ≤ 50000 := by
  have : ∀ L : List GAccepted, (∀ m ∈ L, snd m = true) → ((L.map mailT).flatten).length ≤ L.length * 407 := by
    intro L
    induction L with
    | nil => intro _; simp
    | cons a r ih =>
      intro h
      have h1 := ih fun m hm => h m (List.mem_cons_of_mem _ hm)
      have h2 := (snd_parts a (h a List.mem_cons_self)).1
      rw [List.map_cons, List.flatten_cons, List.length_append, mailT_len, List.length_cons]
      omega
  have h1 := this (M.take k) fun m hm => h m (List.mem_of_mem_take hm)
  have h2 : (M.take k).length ≤ 100 := by rw [List.length_take]; omega
  unfold P
  rw [List.length_append]
  show 3 + _ ≤ 50000
  omega
set_option maxRecDepth 20000 in
theorem txts_len (n : ByteArray) (M : List GAccepted) (hk : M.length ≤ 100) (h : ∀ m ∈ M, snd m = true) : (txts n M).length ≤ 60000 ∧ 0 < (txts n M).length := by
  have h1 := P_len n M M.length hk h
  rw [← P_end n M M.length (Nat.le_refl _), List.length_append]
  simp
  omega
set_option maxRecDepth 20000 in
theorem stT_size (m : GAccepted) (h : m.message.size ≤ 100000) : (stT m).size ≤ 400003 := by
  have := Pl.stuff_len m.message.data.toList (Pl.lines m.message.data.toList).length
  rw [List.take_length, show m.message.data.toList.length = m.message.size by simp] at this
  rw [stT, szL, Pl.stuff, List.length_append]
  show _ + 3 ≤ 400003
  omega
set_option maxRecDepth 20000 in
theorem txts_sz (n : ByteArray) (M : List GAccepted) (hn : n.size ≤ 1048576) (h : ∀ m ∈ M, snd m = true ∧ m.fits 1048576) : ∀ x ∈ txts n M, x.size ≤ 1100000 := by
  have h0 : ∀ a : ByteArray, a.size ≤ 20 → a.size ≤ 1100000 := fun _ h => by omega
  intro x hx
  unfold txts at hx
  simp only [List.mem_append, List.mem_cons, List.not_mem_nil, or_false, List.mem_flatten, List.mem_map] at hx
  rcases hx with ((rfl | rfl | rfl) | ⟨l, ⟨m, hm, rfl⟩, hx⟩) | rfl | rfl
  · exact h0 _ (by decide)
  · omega
  · exact h0 _ (by decide)
  · obtain ⟨hs, f0, f1, f2, f3, f4⟩ := h m hm
    have hst := stT_size m (snd_parts m hs).2
    unfold mailT at hx
    simp only [List.mem_append, List.mem_cons, List.not_mem_nil, or_false, List.mem_flatten, List.mem_map] at hx
    rcases hx with ((rfl | rfl | rfl | rfl) | ⟨l, ⟨t, ht, rfl⟩, hx⟩) | rfl | rfl | rfl
    · exact h0 _ (by decide)
    · omega
    · exact h0 _ (by decide)
    · exact h0 _ (by decide)
    · have := f2 t ht
      simp only [rcT, List.mem_cons, List.not_mem_nil, or_false] at hx
      rcases hx with rfl | rfl | rfl | rfl
      · exact h0 _ (by decide)
      · omega
      · exact h0 _ (by decide)
      · exact h0 _ (by decide)
    · exact h0 _ (by decide)
    · exact h0 _ (by decide)
    · omega
  · exact h0 _ (by decide)
  · exact h0 _ (by decide)
end Ct
set_option maxHeartbeats 8000000 in
set_option maxRecDepth 20000 in
theorem implClientText (n : ByteArray) (o : Option Addr) (M : List GAccepted) (cap lo : Nat) (mx : Int) (w : World) (hn : n.size ≤ 1048576) (hF : GAcceptedsL lo w.heap.size w o M) (hl : M.length ≤ 1048576) (hsz : ∀ m ∈ M, m.fits 1048576) (hm : w.cell? ⟨0, 0, none⟩ = some (.int .i64 mx)) :
    Calls Tryd.prog 7 #[.string n, .slice o M.length cap] w fun e w' => e = .returned (.string (plClientText n M)) ∧ Below w.heap.size w w' := by
  have hlt0 := bcell_lt hm
  have cD := mkHid (implDomain n mx w (by omega) hm)
  have HF := mkHid hF
  have Hsz := mkHid hsz
  have Hm := mkHid hm
  have cN := mkHid (fun (W : World) => implFromToC (M.length : Int) 1 100 W)
  have cC := mkHid (fun (W : World) (hb : Below w.heap.size w W) => implContainsQA o M cap lo mx W ((HF.out.below hb (Nat.le_refl _)).mono (Nat.le_refl _) hb.size) hl Hsz.out ((hb.cell hlt0).trans Hm.out))
  have hlen : (decide ((1 : Int) ≤ (M.length : Int)) && decide ((M.length : Int) ≤ 100)) = (decide (1 ≤ M.length) && decide (M.length ≤ 100)) := by
    congr 1 <;> (apply decide_eq_decide.2; omega)
  rw [hlen] at cN
  obtain ⟨R, hR⟩ : ∃ R, plClientText n M = R := ⟨_, rfl⟩
  have HR : Hid ((if (Pl.domI n.data.toList && (decide (1 ≤ M.length) && decide (M.length ≤ 100)) && M.all Ct.snd) = true then Ct.wr (Ct.txts n M) else ⟨#[]⟩) = R) := show _ = _ from by rw [← hR, Ct.run_eq]; rfl
  rw [hR]
  clear hF hsz hm hlen hR
  cases x0 : Pl.domI n.data.toList
  · rw [x0] at cD
    have hr : Hid (R = ⟨#[]⟩) := show _ = _ from by rw [← HR.out, x0]; rfl
    clear x0 HR
    go_enter Tryd.func7, Tryd.ntmps7
    go_wp2_with fail
    refine cD.out.mono ?_
    rintro e w1 ⟨rfl, hb1⟩
    go_wp2
    go_ret
    rw [hr.out]
    exact ⟨rfl, hb1⟩
  rw [x0] at cD
  cases x1 : (decide (1 ≤ M.length) && decide (M.length ≤ 100))
  · rw [x1] at cN
    have hr : Hid (R = ⟨#[]⟩) := show _ = _ from by rw [← HR.out, x0, x1]; rfl
    clear x0 x1 HR
    go_enter Tryd.func7, Tryd.ntmps7
    go_wp2_with fail
    refine cD.out.mono ?_
    rintro e w1 ⟨rfl, hb1⟩
    go_wp2_with (go_at_call 16; fail)
    refine (cN.out _).mono ?_
    rintro e wN ⟨rfl, rfl⟩
    go_wp2
    go_ret
    rw [hr.out]
    exact ⟨rfl, hb1⟩
  rw [x1] at cN
  cases x2 : M.all Ct.snd
  · rw [x2] at cC
    have hr : Hid (R = ⟨#[]⟩) := show _ = _ from by rw [← HR.out, x0, x1, x2]; rfl
    clear x0 x1 x2 HR
    go_enter Tryd.func7, Tryd.ntmps7
    go_wp2_with fail
    refine cD.out.mono ?_
    rintro e w1 ⟨rfl, hb1⟩
    go_wp2_with (go_at_call 16; fail)
    refine (cN.out _).mono ?_
    rintro e wN ⟨rfl, rfl⟩
    go_wp2_with (go_at_call 17; fail)
    refine (cC.out _ hb1).mono ?_
    rintro e w2 ⟨rfl, hb2⟩
    go_wp2
    go_ret
    rw [hr.out]
    exact ⟨rfl, hb1.trans (hb2.mono hb1.size)⟩
  rw [x2] at cC
  have hr : Hid (R = Ct.wr (Ct.txts n M)) := show _ = _ from by rw [← HR.out, x0, x1, x2]; rfl
  have hMl : M.length ≤ 100 := by simp only [Bool.and_eq_true, decide_eq_true_eq] at x1; exact x1.2
  have hall : ∀ m ∈ M, Ct.snd m = true := fun m hm => List.all_eq_true.1 x2 m hm
  have HA := mkHid hall
  have hPl := mkHid (fun k (hk : k ≤ 100) => Ct.P_len n M k hk hall)
  have hTl := mkHid (Ct.txts_len n M hMl hall)
  have hTs := mkHid (Ct.txts_sz n M hn fun m hm => ⟨hall m hm, Hsz.out m hm⟩)
  clear x0 x1 x2 HR hall
  go_enter Tryd.func7, Tryd.ntmps7
  go_wp2_with fail
  refine cD.out.mono ?_
  rintro e w1 ⟨rfl, hb1⟩
  go_wp2_with (go_at_call 16; fail)
  refine (cN.out _).mono ?_
  rintro e wN ⟨rfl, rfl⟩
  go_wp2_with (go_at_call 17; fail)
  refine (cC.out _ hb1).mono ?_
  rintro e w2 ⟨rfl, hb2⟩
  have hb12 := mkHid (hb1.trans (hb2.mono hb1.size))
  have hws := hb12.out.size
  clear hb1 hb2 cC cN cD
  go_wp2
  go_loopw [5, 27] (fun v iv wr => ∃ i : Nat, i ≤ M.length ∧ iv = .int .i64 i ∧ Hid (OwnX w2.heap.size v (Ct.P n M i) wr) ∧ Hid (Below w2.heap.size w2 wr)) (fun _ iv _ => M.length - (Lib.intOf iv).toNat)
  case atStart => exact ⟨0, Nat.zero_le _, rfl, OwnX.made3 _ _ (Nat.le_refl _) _ _ _, (Below.refl _ _).alloc (Nat.le_refl _) _⟩
  case round =>
    obtain ⟨i, hi, rfl, hown, hb⟩ := hrel
    have hpl := hPl.out i (by omega)
    have hwr := hb.out.size
    by_cases hlt : i < M.length
    · obtain ⟨a, v1, rfl, ha0, ha, hA0, hIn⟩ := HF.out i hlt
      have hbw := mkHid (hb12.out.trans (hb.out.mono hws))
      have hA := hA0.same (Same.of_below (lo := lo) hbw.out (Nat.le_refl _)) (by rw [add_blockG]; exact ha0) (by rw [add_blockG]; exact ha)
      have d0 := hA.c0
      have d1 := hA.c1
      have d2 := hA.c2
      have d3 := hA.c3
      obtain ⟨f0, f1, f2, f3, f4⟩ := Hsz.out M[i] (List.getElem_mem hlt)
      have hsn := Ct.snd_parts M[i] (HA.out M[i] (List.getElem_mem hlt))
      obtain ⟨hn1, hn2⟩ := hsn
      have hnext : Hid (Ct.P n M (i + 1) = Ct.P n M i ++ Ct.mailT M[i]) := Ct.P_next n M i hlt
      obtain ⟨⟨a1, c1, rfl, T1⟩⟩ := hIn
      have HT := mkHid T1
      clear hA hA0 T1 f2
      generalize M[i] = m at *
      generalize Ct.P n M i = P0 at *
      obtain ⟨U, hU⟩ : ∃ U, U = wr.alloc (.cells #[.string m.fromF, .slice a1 m.toF.length c1, .string m.user, .string m.message] 34) := ⟨_, rfl⟩
      have bU : Below wr.heap.size wr U := by rw [hU]; exact (Below.refl _ _).alloc (Nat.le_refl _) _
      have hUs : wr.heap.size < U.heap.size := by rw [hU]; simp
      have hUe : Hid (U.heap.size = wr.heap.size + 1) := show _ = _ from by rw [hU]; simp
      have u0 : U.heap[wr.heap.size]? = some (.cells #[.string m.fromF, .slice a1 m.toF.length c1, .string m.user, .string m.message] 34 (0, 0)) := by rw [hU]; exact heap_alloc_at _ _
      have hownU := mkHid (hown.out.below bU)
      have hbU2 := mkHid (hb.out.trans (bU.mono hwr))
      obtain ⟨z0, z1, z2, z3⟩ := boxC u0
      have HU := mkHid hU
      obtain ⟨vo, vc, hv⟩ := hownU.out.shape
      subst hv
      clear hU bU hown hb
      generalize hGU : wr.heap.size = GU at *
      go_wp2_with (at_builtin; go_must (rw [← HU.out]; refine wp_appX4 rfl _ _ rfl w2.heap.size (.slice vo P0.length vc) P0 rfl hownU.out _ _ _ _ 4 (by rw [hUe.out]; rfl) (by omega) (by omega) ?_; intro v3 w3 hown3 hg3; refine Hid.out ?_))
      refine mkHid ?_
      have hne := hownU.out.apartC u0 (by decide)
      have hb3 := mkHid ((hbU2.out.alloc (by omega) _).grown hg3 (by simp; omega) (fun k hk => (World.ownsRow.lt hownU.out k hk).1))
      have u3 := mkHid ((hg3.block GU (by simp; omega) hne).trans (((Below.refl _ _).alloc (Nat.le_refl _) _ : Below U.heap.size U (U.alloc _)).block GU (by omega) |>.trans u0))
      have hown3' := mkHid hown3
      obtain ⟨y0, y1, y2, y3⟩ := boxC u3.out
      have hGw : GU < w3.heap.size := heap_lt u3.out
      clear hg3 hne hownU u0 z0 z1 z2 z3 hown3 hUs HU hbU2 d0 d1 d2 d3
      obtain ⟨P1, hP1⟩ : ∃ P1, P0 ++ [Ct.mailA, m.fromF, Ct.gt, Ct.nl] = P1 := ⟨_, rfl⟩
      have hP1l : P1.length ≤ P0.length + 4 := by rw [← hP1]; simp
      have hown4 : Hid (OwnX w2.heap.size v3 (P1 ++ Ct.Q m.toF 0) w3) := show OwnX _ _ _ _ from by
        have h0 : Ct.Q m.toF 0 = [] := rfl
        rw [h0, List.append_nil, ← hP1]
        exact hown3'.out
      have HP1 := mkHid hP1
      clear hown3' hP1
      have hQl := mkHid (fun k => Ct.Q_len m.toF k)
      obtain ⟨vo3, vc3, hv3⟩ := hown4.out.shape
      rw [show (P1 ++ Ct.Q m.toF 0).length = P1.length from by rw [show Ct.Q m.toF 0 = [] from rfl, List.append_nil]] at hv3
      subst hv3
      go_wp2
      go_loopw [5, 39] (fun v jv ws => ∃ j : Nat, j ≤ m.toF.length ∧ jv = .int .i64 j ∧ Hid (OwnX w2.heap.size v (P1 ++ Ct.Q m.toF j) ws) ∧ Hid (Below w2.heap.size w2 ws) ∧ Hid (ws.heap[GU]? = some (.cells #[.string m.fromF, .slice a1 m.toF.length c1, .string m.user, .string m.message] 34 (0, 0)))) (fun _ jv _ => m.toF.length - (Lib.intOf jv).toNat)
      case atStart => exact ⟨0, Nat.zero_le _, rfl, hown4, hb3, u3⟩
      case round =>
        clear hown4 hb3 u3 y0 y1 y2 y3
        obtain ⟨j, hj, rfl, hownj, hbj, uj⟩ := hrel
        have hql := hQl.out j
        have hbwj := mkHid (hb12.out.trans (hbj.out.mono hws))
        have hsj := hbj.out.size
        obtain ⟨y0, y1, y2, y3⟩ := boxC uj.out
        have hGj : GU < wr.heap.size := heap_lt uj.out
        by_cases hjl : j < m.toF.length
        · obtain ⟨b1, rfl, hb0, hb1', e0⟩ := (HT.out.below hbwj.out (Nat.le_refl _)) j hjl
          have hst : Hid (P1 ++ Ct.Q m.toF (j + 1) = P1 ++ Ct.Q m.toF j ++ [Ct.rcptA, m.toF[j], Ct.gt, Ct.nl]) := show _ = _ from by rw [Ct.Q_next m.toF j hjl, List.append_assoc]
          generalize m.toF[j] = t at *
          obtain ⟨C, hC⟩ : ∃ C, P1 ++ Ct.Q m.toF j = C := ⟨_, rfl⟩
          have hCl : C.length ≤ 100000 := by rw [← hC, List.length_append]; omega
          rw [hC] at hownj hst
          clear hC
          obtain ⟨vo4, vc4, hv4⟩ := hownj.out.shape
          subst hv4
          have hne := hownj.out.apartC uj.out (by decide)
          go_wp2_with (at_builtin; go_must (refine wp_appX4 rfl _ _ rfl w2.heap.size (.slice vo4 C.length vc4) C rfl hownj.out _ _ _ _ 4 rfl (by omega) (by omega) ?_; intro v5 w5 hown5 hg5))
          have hb5 := mkHid ((hbj.out.alloc (by omega) _).grown hg5 (by simp; omega) (fun k hk => (World.ownsRow.lt hownj.out k hk).1))
          have u5 := mkHid ((hg5.block GU (by simp; omega) hne).trans (((Below.refl _ _).alloc (Nat.le_refl _) _ : Below wr.heap.size wr (wr.alloc _)).block GU (by omega) |>.trans uj.out))
          go_roundw
          case rel => exact ⟨j + 1, by omega, by go_num, by rw [hst.out]; exact hown5, hb5, u5⟩
          case measure => simp [Lib.intOf]; omega
        · have hej : Hid (P1 ++ Ct.Q m.toF j ++ [⟨#[68, 65, 84, 65]⟩, Ct.nl, Ct.stT m] = Ct.P n M (i + 1)) := show _ = _ from by
            rw [hnext.out, ← Ct.mail_eq m j (by omega), ← HP1.out]
            simp only [List.append_assoc]
          obtain ⟨C, hC⟩ : ∃ C, P1 ++ Ct.Q m.toF j = C := ⟨_, rfl⟩
          have hCl : C.length ≤ 100000 := by rw [← hC, List.length_append]; omega
          rw [hC] at hownj hej
          clear hC
          have cS := mkHid (implStuff m.message mx wr hn2 ((hbwj.out.cell hlt0).trans Hm.out))
          rw [show (⟨(Pl.stuff m.message.data.toList).toArray⟩ : ByteArray) = Ct.stT m from rfl] at cS
          generalize Ct.stT m = S at *
          go_wp2_with (go_at_call 19; fail)
          refine cS.out.mono ?_
          rintro e w4 ⟨rfl, hb4⟩
          have hown4 := mkHid (hownj.out.below hb4)
          have hbJ := mkHid (hbj.out.trans (hb4.mono hsj))
          have hs4 := hbJ.out.size
          obtain ⟨vo4, vc4, hv4⟩ := hown4.out.shape
          subst hv4
          clear cS hb4 hownj hbj uj
          go_wp2_with (at_builtin; go_must (refine wp_appX3 rfl _ _ rfl w2.heap.size (.slice vo4 C.length vc4) C rfl hown4.out _ _ _ 3 rfl (by omega) (by omega) ?_; intro v5 w5 hown5 hg5))
          have hb5 := mkHid ((hbJ.out.alloc (by omega) _).grown hg5 (by simp; omega) (fun k hk => (World.ownsRow.lt hown4.out k hk).1))
          go_roundw
          case rel => exact ⟨i + 1, by omega, by go_num, by rw [← hej.out]; exact hown5, hb5⟩
          case measure => simp [Lib.intOf]; omega
    · have hend : Hid (Ct.P n M i ++ [⟨#[81, 85, 73, 84]⟩, Ct.nl] = Ct.txts n M) := Ct.P_end n M i (by omega)
      generalize Ct.P n M i = P0 at *
      obtain ⟨vo, vc, hv⟩ := hown.out.shape
      subst hv
      go_wp2_with (at_builtin; go_must (refine wp_appX2 rfl _ _ rfl w2.heap.size (.slice vo P0.length vc) P0 rfl hown.out _ _ 2 rfl (by omega) (by omega) ?_; intro v5 w5 hown5 hg5; refine Hid.out ?_))
      refine mkHid ?_
      have hb5 := mkHid ((hb.out.alloc (by omega) _).grown hg5 (by simp; omega) (fun k hk => (World.ownsRow.lt hown.out k hk).1))
      have hown6 : OwnX w2.heap.size v5 (Ct.txts n M) w5 := by rw [← hend.out]; exact hown5
      obtain ⟨ht1, ht2⟩ := hTl.out
      obtain ⟨g, c, hv5, hg, hc, hcells⟩ := hown6.cellsC ht2
      have cW := mkHid (implWritten (Ct.txts n M) g c w5 hcells hg (by omega) hc hTs.out)
      subst hv5
      have hbF := mkHid (hb12.out.trans (hb5.out.mono hws))
      clear hown5 hown6 hcells hg5
      go_wp2_with (go_at_call 20; fail)
      refine cW.out.mono ?_
      rintro e w6 ⟨rfl, hb6⟩
      have hbG := mkHid (hbF.out.trans (hb6.mono hbF.out.size))
      clear hb6 cW
      go_wp2
      go_ret
      rw [hr.out]
      exact ⟨rfl, hbG.out⟩
end Go.Proofs.YthgjflgidalmlaaDoor
