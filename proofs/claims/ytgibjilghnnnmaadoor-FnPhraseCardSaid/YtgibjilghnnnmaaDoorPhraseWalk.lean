
/- FnPhrase: its walk. -/
import Derived.Test.YtgibjilghnnnmaaDoorDrawPhrase
import Derived.Test.YtgibjilghnnnmaaDoorPhraseToks
import Derived.Test.YtgibjilghnnnmaaDoorPhraseImpl
namespace Go.Proofs.YtgibjilghnnnmaaDoor
open Go.RowKit Go.Lib
theorem jn_snoc : ∀ (F : List Tk) (t : Tk), F ≠ [] → jn (F ++ [t]) = jn F ++ 32 :: t.text.data.toList
  | [], _, h => absurd rfl h
  | [a], t, _ => by simp [jn]
  | a :: b :: r, t, _ => by
    have ih := jn_snoc (b :: r) t (by simp)
    show jn (a :: b :: (r ++ [t])) = _
    rw [jn]
    have e : b :: (r ++ [t]) = (b :: r) ++ [t] := rfl
    rw [e]
    show a.text.data.toList ++ 32 :: jn ((b :: r) ++ [t]) = _
    rw [ih, jn]
    simp
theorem jn_take : ∀ (T : List Tk) (i : Nat), (jn (T.take i)).length ≤ (jn T).length
  | [], i => by simp
  | t :: r, 0 => by simp [jn]
  | [t], i + 1 => by simp
  | t :: a :: q, i + 1 => by
    have ih := jn_take (a :: q) i
    cases i with
    | zero => simp [jn]
    | succ i =>
      rw [List.take_succ_cons] at ih
      rw [List.take_succ_cons, List.take_succ_cons]
      have e1 : jn (t :: a :: q.take i) = t.text.data.toList ++ 32 :: jn (a :: q.take i) := rfl
      have e2 : jn (t :: a :: q) = t.text.data.toList ++ 32 :: jn (a :: q) := rfl
      rw [e1, e2, List.length_append, List.length_append, List.length_cons, List.length_cons]
      omega
theorem jn_ge : ∀ (T : List Tk), T.length ≤ (jn T).length + 1
  | [] => by simp
  | [t] => by simp
  | t :: a :: q => by
    have ih := jn_ge (a :: q)
    rw [jn]
    simp only [List.length_append, List.length_cons] at ih ⊢
    omega
theorem jn_next (T : List Tk) (i : Nat) (h : i < T.length) : jn (T.take (i + 1)) = if i = 0 then T[i].text.data.toList else jn (T.take i) ++ 32 :: T[i].text.data.toList := by
  rw [List.take_succ_eq_append_getElem h]
  by_cases h0 : i = 0
  · subst h0
    simp [jn]
  · rw [if_neg h0, jn_snoc]
    intro e
    have := congrArg List.length e
    rw [List.length_take, Nat.min_eq_left (Nat.le_of_lt h)] at this
    exact h0 this
theorem ba_list (t : ByteArray) : (⟨t.data.toList.toArray⟩ : ByteArray) = t := by
  cases t; simp
set_option maxRecDepth 10000 in
set_option maxHeartbeats 4000000 in
theorem phraseWalk (o : Option Addr) (c : List UInt8) (cp : Nat) (m : Int) (w : World) (hc : Code w.heap.size w o c) (hl : c.length ≤ 1048576) (hm : w.cell? ⟨0, 0, none⟩ = some (.int .i64 m)) :
    Calls Tryd.prog 3 #[.slice o c.length cp] w fun e w' => e = .returned (.bool true) ∧ Below w.heap.size w w' := by
  have hD := drawPhrase o c cp w hc hl
  have Hm := (show Hid _ from hm)
  clear hc hm
  go_enter Tryd.func3, Tryd.ntmps3
  go_wp2_with fail
  refine hD.mono ?_
  rintro e w1 ⟨t, rfl, ht, hb1⟩
  have hm1 := (hb1.cell (World.block_lt_of_cell? _ _ Hm.out)).trans Hm.out
  have hI := implPhrase t m w1 (by omega) hm1
  have HS := (show Hid _ from fun w => specPhrase t w (by omega))
  have Hb1 := (show Hid _ from hb1)
  clear hD hm1 Hm hb1
  obtain ⟨P, hP⟩ : ∃ P : ByteArray, P = ⟨(Pl.phrase t.data.toList).toArray⟩ := ⟨_, rfl⟩
  rw [← hP] at hI
  have HS2 : Hid (∀ w, Calls Tryd.prog 6 #[.string t] w fun e w' => e = .returned (.string P) ∧ Below w.heap.size w w') := by
    intro w
    rw [hP]
    exact HS.out w
  have HP : Hid (P = ⟨(Pl.phrase t.data.toList).toArray⟩) := hP
  clear HS hP
  go_wp2_with fail
  refine hI.mono ?_
  rintro e w2 ⟨rfl, hb2⟩
  have Hb2 := (show Hid _ from Hb1.out.trans (hb2.mono Hb1.out.size))
  clear hI hb2 Hb1
  go_wp2_with fail
  refine (HS2.out _).mono ?_
  rintro e w3 ⟨rfl, hb3⟩
  have Hb3 := (show Hid _ from Hb2.out.trans (hb3.mono Hb2.out.size))
  clear HS2 hb3 Hb2
  cases htb : t.data.toList.all Pl.tb
  · have he : P.toList.isEmpty = true := by
      rw [HP.out, ByteArray.toList_eq, Pl.phrase, htb]
      rfl
    clear HP htb
    go_wp2
    go_ret
    exact ⟨rfl, Hb3.out⟩
  · cases hsc : Pl.scan 32 false t.data.toList
    · -- quoted
      have hPl : P.data.toList = 34 :: Pl.qs t.data.toList ++ [34] := by
        rw [HP.out]
        show (Pl.phrase t.data.toList).toArray.toList = _
        rw [List.toList_toArray, Pl.phrase, htb, hsc]
        rfl
      have he : P.toList.isEmpty = false := by rw [ByteArray.toList_eq, hPl]; rfl
      have hclean : Clean P := clean_of (by
        rw [hPl]
        intro x hx
        rcases List.mem_append.1 hx with hx | hx
        · rcases List.mem_cons.1 hx with rfl | hx
          · exact ⟨rfl, rfl⟩
          · exact qs_clean _ htb x hx
        · rw [List.mem_singleton.1 hx]; exact ⟨rfl, rfl⟩)
      have hPs : P.size ≤ 4000 := by
        have e : P.size = P.data.toList.length := by simp
        have := qs_len t.data.toList
        have e2 : t.data.toList.length = t.size := by simp
        rw [e, hPl]
        simp
        omega
      have hTk := implTokens P _ w3 hPs hclean (quoted_toks P t.data.toList hPl)
      rw [ba_list] at hTk
      clear hclean hPl HP hsc htb
      go_wp2_with fail
      refine hTk.mono ?_
      rintro e w4 ⟨v, rfl, hown, hb4⟩
      have Hb4 := (show Hid _ from Hb3.out.trans (hb4.mono Hb3.out.size))
      clear hTk hb4 Hb3
      rcases hown.form with ⟨-, h⟩ | ⟨gv, cv, rfl⟩
      · cases h
      obtain ⟨k0, k1⟩ := hown.cell 0 (by simp)
      have k0' : w4.cell? ⟨gv, 0, none⟩ = some (.int .i64 2) := k0
      have k1' : w4.cell? ⟨gv, 1, none⟩ = some (.string t) := k1
      have hbA : ∀ ob, Below w4.heap.size w4 (w4.alloc ob) := fun ob => (Below.refl _ _).alloc (Nat.le_refl _) _
      have hgv := World.block_lt_of_cell? _ _ k0'
      clear k0 k1 hown
      go_wp2
      go_ret
      exact ⟨rfl, Hb4.out.trans ((hbA _).mono Hb4.out.size)⟩
    · have hPt : P = t := by
        rw [HP.out, Pl.phrase, htb, hsc]
        exact ba_list t
      clear HP
      subst hPt
      obtain ⟨hz0, ha0⟩ := scan_first P.data.toList 0 hsc
      have hPz : 0 < P.size := by simpa using hz0
      have he : P.toList.isEmpty = false := by
        rw [ByteArray.toList_eq, List.isEmpty_eq_false_iff]
        intro e
        rw [e] at hz0
        simp at hz0
      have hclean : Clean P := clean_of fun x hx => tb_clean x (List.all_eq_true.1 htb x hx)
      obtain ⟨T, hT, hk, hne, hj⟩ := atoms_toks P P.size 0 0 (by omega) (stop_here _ _ _ (by omega) (fun h => by rw [Pl.b_lt _ 0 h]; exact atom_not_blank _ ha0)) (Nat.le_refl _) hsc
      have hTk := implTokens P T w3 (by omega) hclean hT
      have HK : Hid (∀ t ∈ T, t.kind = 1) := hk
      have HJ : Hid (jn T = P.data.toList) := hj
      have HTl : Hid (T ≠ []) := hne
      clear hclean hT hk hj hne hsc htb ha0 hz0
      go_wp2_with fail
      refine hTk.mono ?_
      rintro e w4 ⟨v, rfl, hown, hb4⟩
      have Hb4 := (show Hid _ from Hb3.out.trans (hb4.mono Hb3.out.size))
      clear hTk hb4 Hb3
      rcases hown.form with ⟨-, h⟩ | ⟨gv, cv, rfl⟩
      · exact absurd h HTl.out
      have hT0 : 0 < T.length := by
        cases T with
        | nil => exact absurd rfl HTl.out
        | cons _ _ => simp
      obtain ⟨k0, -⟩ := hown.cell 0 hT0
      have k0' : w4.cell? ⟨gv, 0, none⟩ = some (.int .i64 1) := by
        rw [HK.out T[0] (List.getElem_mem hT0)] at k0
        simpa using k0
      have hgv := World.block_lt_of_cell? _ _ k0'
      have hn0 : ((T.length : Int) == 0) = false := beq_eq_false_iff_ne.2 (by omega)
      have Hown : Hid (OwnT w3.heap.size (.slice (some ⟨gv, 0, none⟩) T.length cv) T w4) := hown
      have hTlen : T.length ≤ 4000 := by
        have h1 := jn_ge T
        rw [HJ.out] at h1
        simp at h1
        omega
      have hbA : Below w4.heap.size w4 (w4.alloc (.cells #[.int .i64 0, .int .i64 0, .slice (some ⟨gv, 0, none⟩) T.length cv] 27)) := (Below.refl _ _).alloc (Nat.le_refl _) _
      have Hb5 := (show Hid _ from Hb4.out.trans (hbA.mono Hb4.out.size))
      clear k0 hown
      go_wp2
      obtain ⟨W5, hW5⟩ : ∃ W5, W5 = w4.alloc (.cells #[.int .i64 0, .int .i64 0, .slice (some ⟨gv, 0, none⟩) T.length cv] 27) := ⟨_, rfl⟩
      obtain ⟨gl, hgl⟩ : ∃ gl, gl = w4.heap.size := ⟨_, rfl⟩
      have hl5 : W5.cell? ⟨gl, 2, none⟩ = some (.slice (some ⟨gv, 0, none⟩) T.length cv) := by rw [hW5, hgl]; simp
      have HC5 : Hid (∀ j (h : j < T.length), W5.cell? ⟨gv, j * 3, none⟩ = some (.int .i64 1) ∧ W5.cell? ⟨gv, j * 3 + 1, none⟩ = some (.string T[j].text)) := by
        intro j h
        obtain ⟨h1, h2⟩ := OwnT.cell (show OwnT w3.heap.size (.slice (some ⟨gv, 0, none⟩) T.length cv) T w4 from Hown.out) j h
        rw [HK.out T[j] (List.getElem_mem h)] at h1
        rw [hW5]
        exact ⟨(hbA.cell hgv).trans h1, (hbA.cell hgv).trans h2⟩
      rw [← hW5] at Hb5 ⊢
      rw [← hgl]
      clear hW5 hgl hbA Hb4 Hown k0' HK
      go_loopw [6, 7] (fun al i wr => ∃ (A : ByteArray) (k : Nat), k ≤ T.length ∧ al = .string A ∧ i = .int .i64 k ∧ Hid (A.data.toList = jn (T.take k)) ∧ wr = W5) (fun _ i _ => T.length - (Lib.intOf i).toNat)
      case atStart => exact ⟨⟨#[]⟩, 0, Nat.zero_le _, rfl, rfl, rfl, rfl⟩
      case round =>
        obtain ⟨A, k, hk, rfl, rfl, HA, rfl⟩ := hrel
        by_cases hlt : k < T.length
        · obtain ⟨c0, c1⟩ := HC5.out k hlt
          have hnext := jn_next T k hlt
          have hle := jn_take T (k + 1)
          rw [HJ.out] at hle
          have hPl : P.data.toList.length = P.size := by simp
          have hAs : A.size = (jn (T.take k)).length := by rw [← HA.out]; simp
          have hle0 := jn_take T k
          rw [HJ.out, hPl] at hle0
          have hxs : T[k].text.size ≤ 200 := by
            rw [hnext, hPl] at hle
            have e : T[k].text.data.toList.length = T[k].text.size := by simp
            split at hle
            · omega
            · simp at hle; omega
          have HX : Hid (jn (T.take (k + 1)) = if k = 0 then T[k].text.data.toList else jn (T.take k) ++ 32 :: T[k].text.data.toList) := hnext
          generalize T[k].text = x at *
          have hAs2 : A.size ≤ 200 := by omega
          clear hnext hle hle0 hAs hPl
          by_cases h0 : 0 < k
          · have HN : Hid ((A ++ ⟨#[32]⟩ ++ x).data.toList = jn (T.take (k + 1))) := by
              show _ = _
              rw [HX.out, if_neg (by omega), ← HA.out]
              simp [ByteArray.data_append]
            have n1 : (A ++ (⟨#[32]⟩ : ByteArray)).size = A.size + 1 := by rw [ByteArray.size_append]; rfl
            clear HX HA
            go_wp2
            go_roundw
            case rel => exact ⟨A ++ ⟨#[32]⟩ ++ x, k + 1, by omega, rfl, by go_num, HN, trivial⟩
            case measure => simp [Lib.intOf]; omega
          · obtain rfl : k = 0 := by omega
            have HN : Hid ((A ++ x).data.toList = jn (T.take (0 + 1))) := by
              show _ = _
              rw [HX.out, if_pos rfl]
              have : A.data.toList = [] := by rw [HA.out]; rfl
              simp [ByteArray.data_append, this]
            clear HX HA
            go_wp2
            go_roundw
            case rel => exact ⟨A ++ x, 0 + 1, by omega, rfl, by go_num, HN, trivial⟩
            case measure => simp [Lib.intOf]; omega
        · have hAP : (A.toList == P.toList) = true := by
            rw [ByteArray.toList_eq, ByteArray.toList_eq, HA.out, List.take_of_length_le (by omega), HJ.out]
            simp
          clear HA
          go_wp2
          go_ret
          first | exact ⟨rfl, Hb5.out⟩ | exact ⟨by rw [hAP]; rfl, Hb5.out⟩
end Go.Proofs.YtgibjilghnnnmaaDoor
