
/- A query's text, kind by kind: plain. -/

/- How long a query's texts are: plain. -/

/- The specification's l14Write and WriteQuery. -/
import Derived.Test.YtfaeckaeaeadeaaGreatDoorSpecWrite5
namespace Go.Proofs.YtfaeckaeaeadeaaGreatDoor
open Go.RowKit Go.Lib Go.Maps
namespace Qw
variable {dy : Int → List UInt8}
theorem right_parts (n : GQueryNode) (h : Qu.right n = true) : 1 ≤ n.kind ∧ n.kind ≤ 16 ∧ (Qu.parts n n.kind).1 = true ∧ (Qu.parts n n.kind).2.1 = true ∧ (Qu.parts n n.kind).2.2.1 = true ∧ (Qu.parts n n.kind).2.2.2.1 = true ∧ (Qu.parts n n.kind).2.2.2.2 = true := by
  unfold Qu.right at h
  split at h
  · rename_i hk
    simp only [Qu.five, Bool.and_eq_true] at h
    exact ⟨hk.1, hk.2, h.1, h.2.1, h.2.2.1, h.2.2.2.1, h.2.2.2.2⟩
  · cases h
theorem emp_list (t : ByteArray) (h : Qu.emp t = true) : t.data.toList = [] := by
  unfold Qu.emp at h
  rw [ByteArray.toList_eq] at h
  exact beq_iff_eq.1 h
theorem join_two (x y : List UInt8) : join [x, y] [32] = x ++ [32] ++ y := by rw [join_cons]; simp [joinTail]
theorem join_three (x y z : List UInt8) : join [x, y, z] [32] = x ++ [32] ++ y ++ [32] ++ z := by rw [join_cons]; simp [joinTail]
theorem words_plain (n : GQueryNode) (k : Int) (ks : List (List UInt8)) (hk : n.kind = k) (h16 : k ≠ 16) (hnm : n.name.data.toList = []) (hl : (look k []).isEmpty = false) : words dy n ks = look k [] :: (extra dy n ++ ks) := by
  unfold words keys
  rw [hk, if_neg h16, hnm, hl]
  rfl
theorem look_none (k : Int) (x : List UInt8) (h : ∀ r ∈ tb, r.2.1 = k → r.2.2 ≠ x) : look k x = [] := by
  unfold look
  rw [List.find?_eq_none.2 (fun r hr => by
    have := h r hr
    simp only [Bool.and_eq_true, beq_iff_eq]
    exact fun e => this e.1 e.2)]
  rfl
theorem pick4 (nm : Nat → ByteArray) (x : ByteArray) : pick nm x 4 0 = if ((nm 0).data.toList == x.data.toList) = true then some 0 else if ((nm 1).data.toList == x.data.toList) = true then some 1 else if ((nm 2).data.toList == x.data.toList) = true then some 2 else if ((nm 3).data.toList == x.data.toList) = true then some 3 else none := by
  simp only [pick, ByteArray.toList_eq]
theorem names2 : ∀ r ∈ tb, r.2.1 = 2 → r.2.2 = (fn 0).data.toList ∨ r.2.2 = (fn 1).data.toList ∨ r.2.2 = (fn 2).data.toList ∨ r.2.2 = (fn 3).data.toList ∨ r.2.2 = [] := by decide
theorem names3 : ∀ r ∈ tb, r.2.1 = 3 → r.2.2 = (fn 0).data.toList ∨ r.2.2 = (fn 1).data.toList ∨ r.2.2 = (fn 2).data.toList ∨ r.2.2 = (fn 3).data.toList ∨ r.2.2 = [] := by decide
theorem names4 : ∀ r ∈ tb, r.2.1 = 4 → r.2.2 = (hn 0).data.toList ∨ r.2.2 = (hn 1).data.toList ∨ r.2.2 = (hn 2).data.toList ∨ r.2.2 = (hn 3).data.toList ∨ r.2.2 = [] := by decide
theorem key2 (x : ByteArray) (hx : x.data.toList ≠ []) : join (keys 2 x.data.toList) [32] = flagT ⟨#[]⟩ x := by
  unfold flagT
  rw [pick4]
  generalize x.data.toList = l at *
  by_cases h0 : (fn 0).data.toList = l
  · subst h0; decide
  by_cases h1 : (fn 1).data.toList = l
  · subst h1; decide
  by_cases h2 : (fn 2).data.toList = l
  · subst h2; decide
  by_cases h3 : (fn 3).data.toList = l
  · subst h3; decide
  rw [if_neg (by simpa using h0), if_neg (by simpa using h1), if_neg (by simpa using h2), if_neg (by simpa using h3)]
  have hl : look 2 l = [] := look_none 2 l (fun r hr hk e => by
    rcases names2 r hr hk with z | z | z | z | z
    · exact h0 (z.symm.trans e)
    · exact h1 (z.symm.trans e)
    · exact h2 (z.symm.trans e)
    · exact h3 (z.symm.trans e)
    · exact hx (e.symm.trans z))
  unfold keys
  rw [hl]
  show join [look 2 [], l] [32] = _
  rw [join_two, show look 2 [] = [75, 69, 89, 87, 79, 82, 68] from by decide]
  simp
theorem key3 (x : ByteArray) (hx : x.data.toList ≠ []) : join (keys 3 x.data.toList) [32] = flagT ⟨#[85, 78]⟩ x := by
  unfold flagT
  rw [pick4]
  generalize x.data.toList = l at *
  by_cases h0 : (fn 0).data.toList = l
  · subst h0; decide
  by_cases h1 : (fn 1).data.toList = l
  · subst h1; decide
  by_cases h2 : (fn 2).data.toList = l
  · subst h2; decide
  by_cases h3 : (fn 3).data.toList = l
  · subst h3; decide
  rw [if_neg (by simpa using h0), if_neg (by simpa using h1), if_neg (by simpa using h2), if_neg (by simpa using h3)]
  have hl : look 3 l = [] := look_none 3 l (fun r hr hk e => by
    rcases names3 r hr hk with z | z | z | z | z
    · exact h0 (z.symm.trans e)
    · exact h1 (z.symm.trans e)
    · exact h2 (z.symm.trans e)
    · exact h3 (z.symm.trans e)
    · exact hx (e.symm.trans z))
  unfold keys
  rw [hl]
  show join [look 3 [], l] [32] = _
  rw [join_two, show look 3 [] = [85, 78, 75, 69, 89, 87, 79, 82, 68] from by decide]
  simp
theorem key4 (x t : ByteArray) (hx : x.data.toList ≠ []) : join (keys 4 x.data.toList ++ [quote t]) [32] = fieldT x t := by
  unfold fieldT
  rw [pick4]
  generalize x.data.toList = l at *
  generalize quote t = q at *
  by_cases h0 : (hn 0).data.toList = l
  · subst h0
    rw [show keys 4 (hn 0).data.toList = [(hk 0).data.toList] from by decide, if_pos (by decide)]
    exact join_two _ _
  by_cases h1 : (hn 1).data.toList = l
  · subst h1
    rw [show keys 4 (hn 1).data.toList = [(hk 1).data.toList] from by decide, if_neg (by decide), if_pos (by decide)]
    exact join_two _ _
  by_cases h2 : (hn 2).data.toList = l
  · subst h2
    rw [show keys 4 (hn 2).data.toList = [(hk 2).data.toList] from by decide, if_neg (by decide), if_neg (by decide), if_pos (by decide)]
    exact join_two _ _
  by_cases h3 : (hn 3).data.toList = l
  · subst h3
    rw [show keys 4 (hn 3).data.toList = [(hk 3).data.toList] from by decide, if_neg (by decide), if_neg (by decide), if_neg (by decide), if_pos (by decide)]
    exact join_two _ _
  rw [if_neg (by simpa using h0), if_neg (by simpa using h1), if_neg (by simpa using h2), if_neg (by simpa using h3)]
  have hl : look 4 l = [] := look_none 4 l (fun r hr hk e => by
    rcases names4 r hr hk with z | z | z | z | z
    · exact h0 (z.symm.trans e)
    · exact h1 (z.symm.trans e)
    · exact h2 (z.symm.trans e)
    · exact h3 (z.symm.trans e)
    · exact hx (e.symm.trans z))
  unfold keys
  rw [hl]
  show join [look 4 [], l, q] [32] = _
  rw [join_three, show look 4 [] = [72, 69, 65, 68, 69, 82] from by decide]
  simp
end Qw
end Go.Proofs.YtfaeckaeaeadeaaGreatDoor
namespace Go.Proofs.YtfaeckaeaeadeaaGreatDoor
open Go.RowKit Go.Lib Go.Maps
namespace Qw
variable {dy : Int → List UInt8} {F : List GQueryNode}
theorem flag_len (t : ByteArray) (h : St.flag t = true) : t.data.toList.length ≤ 70 ∧ t.data.toList ≠ [] := by
  have hl : t.data.toList.length = t.size := by simp
  simp only [St.flag, St.sys, Bool.or_eq_true, Bool.and_eq_true, decide_eq_true_eq, beq_iff_eq] at h
  rcases h with (e | e | e | e | e) | ⟨h1, h2, -⟩
  · rw [e]; decide
  · rw [e]; decide
  · rw [e]; decide
  · rw [e]; decide
  · rw [e]; decide
  · exact ⟨by omega, fun e => by rw [e] at hl; simp at hl; omega⟩
theorem name_len (t : ByteArray) (h : Qu.name t = true) : t.data.toList.length ≤ 70 ∧ t.data.toList ≠ [] := by
  simp only [Qu.name, Pl.nameOk, Bool.and_eq_true, decide_eq_true_eq] at h
  refine ⟨h.1.2.1, fun e => ?_⟩
  have := h.1.1
  rw [e] at this
  exact absurd this (by decide)
theorem name_le (n : GQueryNode) (h : Qu.right n = true) : n.name.data.toList.length ≤ 70 := by
  obtain ⟨-, -, h1, -⟩ := right_parts n h
  unfold Qu.parts at h1
  dsimp only at h1
  split at h1
  · exact (flag_len _ h1).1
  · split at h1
    · exact (name_len _ h1).1
    · rw [emp_list _ h1]; exact Nat.zero_le _
theorem one_cons (x : List UInt8) : one [x] = x.length + 1 := by simp [one, lens]
theorem extra_le (hdy : ∀ z, 0 ≤ z → z ≤ 2932896 → (dy z).length ≤ 11) (n : GQueryNode) (h : Qu.right n = true) : one (extra dy n) ≤ 2201 := by
  obtain ⟨-, -, -, h2, h3, h4, -⟩ := right_parts n h
  unfold extra
  split
  · rename_i hk
    unfold Qu.parts at h2
    dsimp only at h2
    rw [if_pos hk, decide_eq_true_eq] at h2
    have h1 := qs_le n.text.data.toList
    have hl : n.text.data.toList.length = n.text.size := by simp
    rw [one_cons, quote]
    simp
    omega
  · split
    · rename_i _ hk
      unfold Qu.parts at h3
      dsimp only at h3
      rw [if_pos hk, Bool.and_eq_true, decide_eq_true_eq, decide_eq_true_eq] at h3
      have := hdy n.num h3.1 h3.2
      rw [one_cons]
      omega
    · split
      · rename_i _ hk7 hk
        unfold Qu.parts at h3
        dsimp only at h3
        rw [if_neg hk7, if_pos hk, Bool.and_eq_true, decide_eq_true_eq, decide_eq_true_eq] at h3
        have := Rg.dec_small n.num.toNat (by omega)
        rw [one_cons]
        omega
      · split
        · rename_i _ _ _ hk
          unfold Qu.parts at h4
          dsimp only at h4
          rw [if_pos hk] at h4
          have := wr_le n.uids h4
          rw [one_cons, if_pos h4]
          omega
        · exact Nat.zero_le _
theorem own_le (hdy : ∀ z, 0 ≤ z → z ≤ 2932896 → (dy z).length ≤ 11) (n : GQueryNode) (h : Qu.right n = true) (ks : List (List UInt8)) : (txt dy n ks).length ≤ 2300 + one ks ∧ (par n (txt dy n ks)).length ≤ 2400 + one ks := by
  have h1 : (txt dy n ks).length ≤ 2300 + one ks := by
    have hj := join_len (words dy n ks)
    unfold txt
    have hw : one (words dy n ks) ≤ 2300 + one ks := by
      unfold words
      split
      · omega
      · rw [one_append, one_append]
        have a := keys_one n.kind n.name.data.toList (name_le n h)
        have b := extra_le hdy n h
        omega
    omega
  refine ⟨h1, ?_⟩
  unfold par
  split
  · simp; omega
  · omega
theorem ok_node (i : Nat) (h : Qu.ok F i = true) : ∃ hi : i < F.length, Qu.right F[i] = true := by
  unfold Qu.ok at h
  by_cases hi : i < F.length
  · rw [List.getElem?_eq_getElem hi] at h
    exact ⟨hi, h⟩
  · rw [List.getElem?_eq_none (by omega)] at h
    cases h
theorem kids_at (i : Nat) (hi : i < F.length) : Qu.kids F i = F[i].kids := by
  unfold Qu.kids
  rw [List.getElem?_eq_getElem hi]
  rfl
theorem fo_sum (hdy : ∀ z, 0 ≤ z → z ≤ 2932896 → (dy z).length ≤ 11) {d lo hi : Nat} {ks : List Int} (h : Tr.Fo (Qu.ok F) (Qu.kids F) d lo hi ks) : sum (fun k => (W dy F F.length k.toNat).length + 1) ks ≤ 2401 * (hi - lo) := by
  induction h with
  | nil => exact Nat.zero_le _
  | snoc d lo m k ks h1 h2 h3 ih1 ih2 =>
    obtain ⟨hk, hr⟩ := ok_node k h2
    have hrange := h3.range
    have a := h1.le
    have b := h3.le
    rw [kids_at k hk] at hrange ih2
    have hW := W_in (dy := dy) F.length k hk hk hrange
    have hl := (own_le hdy F[k] hr (F[k].kids.map fun k => W dy F F.length k.toNat)).2
    rw [one_map (fun k => W dy F F.length k.toNat)] at hl
    rw [sum_append]
    simp only [sum, Int.toNat_natCast]
    rw [hW]
    have e : 2401 * (k + 1 - lo) = 2401 * (m - lo) + 2401 * (k - m) + 2401 := by omega
    omega
theorem good_all (hg : Qu.good F = true) : 1 ≤ F.length ∧ F.length ≤ 100 ∧ Tr.run (Qu.ok F) (Qu.kids F) F.length ≠ none := by
  simp only [Qu.good, Bool.and_eq_true, decide_eq_true_eq, beq_iff_eq] at hg
  obtain ⟨h1, h2, h3⟩ := hg
  refine ⟨h1, h2, ?_⟩
  obtain ⟨a, d, -, b⟩ := Tr.span_fo 10 (F.length - 1) 0 h3
  have c := Tr.Fo.snoc d 0 0 (F.length - 1) [] (Tr.Fo.nil (d + 1) 0) a b
  have e := Tr.fo_run c [] rfl
  rw [show F.length - 1 + 1 = F.length by omega] at e
  rw [e]
  simp
theorem run_some (hg : Qu.good F = true) (i : Nat) (hi : i ≤ F.length) : ∃ o, Tr.run (Qu.ok F) (Qu.kids F) i = some o := by
  cases h : Tr.run (Qu.ok F) (Qu.kids F) i with
  | none => exact absurd (Tr.run_none i h F.length hi) (good_all hg).2.2
  | some o => exact ⟨o, rfl⟩
theorem good_right (hg : Qu.good F = true) (i : Nat) (hi : i < F.length) : Qu.right F[i] = true := by
  obtain ⟨o, ho⟩ := run_some hg F.length (Nat.le_refl _)
  have := (Tr.run_ok _ _).1 ho
  obtain ⟨hi', hr⟩ := ok_node i (this.2 i hi)
  exact hr
theorem good_kids (hg : Qu.good F = true) (i : Nat) (hi : i < F.length) : ∀ k ∈ F[i].kids, 0 ≤ k ∧ k < (i : Int) := by
  obtain ⟨o, ho⟩ := run_some hg F.length (Nat.le_refl _)
  have := Tr.run_kids _ _ ho i hi
  rw [kids_at i hi] at this
  exact this
theorem sum_drop (g : Int → Nat) (l : List Int) (m : Nat) : sum g (l.drop m) ≤ sum g l := by
  have := sum_append g (l.take m) (l.drop m)
  rw [List.take_append_drop] at this
  omega
theorem good_one (hdy : ∀ z, 0 ≤ z → z ≤ 2932896 → (dy z).length ≤ 11) (hg : Qu.good F = true) (i : Nat) (hi : i < F.length) : one (F[i].kids.map fun k => W dy F F.length k.toNat) ≤ 2401 * i := by
  obtain ⟨o, ho⟩ := run_some hg (i + 1) (by omega)
  unfold Tr.run at ho
  split at ho
  · cases ho
  · rename_i p hp
    split at ho
    · rename_i hc
      obtain ⟨d, hd⟩ := Tr.run_fo i p hp
      have h1 := fo_sum hdy hd
      have h2 := sum_drop (fun k => (W dy F F.length k.toNat).length + 1) p (p.length - (Qu.kids F i).length)
      rw [hc.2.1, kids_at i hi] at h2
      rw [one_map (fun k => W dy F F.length k.toNat)]
      omega
    · cases ho
theorem good_len (hdy : ∀ z, 0 ≤ z → z ≤ 2932896 → (dy z).length ≤ 11) (hg : Qu.good F = true) (i : Nat) (hi : i < F.length) : (W dy F F.length i).length ≤ 300000 ∧ (txt dy F[i] (F[i].kids.map fun k => W dy F F.length k.toNat)).length ≤ 300000 := by
  have h1 := good_one hdy hg i hi
  have h2 := own_le hdy F[i] (good_right hg i hi) (F[i].kids.map fun k => W dy F F.length k.toNat)
  rw [W_in F.length i hi hi (good_kids hg i hi)]
  have := (good_all hg).2.1
  omega
end Qw
end Go.Proofs.YtfaeckaeaeadeaaGreatDoor
namespace Go.Proofs.YtfaeckaeaeadeaaGreatDoor
open Go.RowKit Go.Lib Go.Maps
theorem dy_len : ∀ z, 0 ≤ z → z ≤ 2932896 → (Qw.dy z).length ≤ 11 := by
  intro z h0 h1
  have := dayT_size z ⟨#[45]⟩ rfl h0 h1
  have hl : (dayT z ⟨#[45]⟩).data.toList.length = (dayT z ⟨#[45]⟩).size := by simp
  unfold Qw.dy
  omega
theorem len_two (l : List Int) (h : l.length = 2) : ∃ a b, l = [a, b] := by
  match l, h with
  | [a, b], _ => exact ⟨a, b, rfl⟩
theorem RetT.cast {X Y : List UInt8} {w : World} (h : X = Y) {e : Ending} {w' : World} (hr : RetT X w e w') : RetT Y w e w' := h ▸ hr
/-- How a node is written that is the whole, or not. -/
def Qw.at_ (F : List GQueryNode) (i : Nat) (hi : i < F.length) (wh : Bool) : List UInt8 := if wh then Qw.txt Qw.dy F[i] (F[i].kids.map fun k => Qw.W Qw.dy F F.length k.toNat) else Qw.W Qw.dy F F.length i
theorem Qw.at_other (F : List GQueryNode) (hg : Qu.good F = true) (i : Nat) (hi : i < F.length) (wh : Bool) (h16 : F[i].kind ≠ 16) : Qw.at_ F i hi wh = Qw.txt Qw.dy F[i] (F[i].kids.map fun k => Qw.W Qw.dy F F.length k.toNat) := by
  unfold Qw.at_
  cases wh
  · rw [if_neg (by simp), Qw.W_in F.length i hi hi (Qw.good_kids hg i hi), Qw.par, if_neg h16]
  · rw [if_pos rfl]
set_option maxHeartbeats 4000000 in
theorem specWrite (o : Option Addr) (F : List GQueryNode) (cap lo : Nat) (hg : Qu.good F = true) (hfit : ∀ n ∈ F, n.fits 1048576) : ∀ (m i : Nat) (hi : i < F.length), i < m → ∀ (wh : Bool) (w : World), GQueryNodesL lo w.heap.size w o F →
    Calls Tryz.prog 11 #[.slice o F.length cap, .int .i64 i, .bool wh] w (RetT (Qw.at_ F i hi wh) w)
  | 0, i, hi, hm, _, _, _ => by omega
  | m + 1, i, hi, hm, wh, w, hF => by
    have hr := Qw.good_right hg i hi
    obtain ⟨k1, k2, p1, p2, p3, p4, p5⟩ := Qw.right_parts F[i] hr
    have hkd := Qw.good_kids hg i hi
    have hkid : ∀ k ∈ F[i].kids, KidT o F.length cap w k (Qw.W Qw.dy F F.length k.toNat) := by
      intro k hk W hb
      obtain ⟨a, b⟩ := hkd k hk
      have hlt : k.toNat < F.length := by omega
      have := specWrite o F cap lo hg hfit m k.toNat hlt (by omega) false W ((hF.below hb (Nat.le_refl _)).mono (Nat.le_refl _) hb.size)
      rw [Int.toNat_of_nonneg a] at this
      exact this.mono fun e w' h => h.cast rfl
    have hkl : ∀ k ∈ F[i].kids, (Qw.W Qw.dy F F.length k.toNat).length ≤ 1000000 := by
      intro k hk
      obtain ⟨a, b⟩ := hkd k hk
      have := (Qw.good_len dy_len hg k.toNat (by omega)).1
      omega
    have hone := Qw.good_one dy_len hg i hi
    have hN := (Qw.good_all hg).2.1
    have hfi := hfit F[i] (List.getElem_mem hi)
    have hnl := Qw.name_le F[i] hr
    have hns : F[i].name.size ≤ 70 := by have : F[i].name.data.toList.length = F[i].name.size := by simp
                                         omega
    by_cases x16 : F[i].kind = 16
    · have hkn : F[i].kids.length ≤ 1000000 := by
        have h1 : F[i].kids.length ≤ Qw.one (F[i].kids.map fun k => Qw.W Qw.dy F F.length k.toNat) := by
          unfold Qw.one
          rw [List.length_map]
          omega
        omega
      refine (spW16 o F cap lo i wh w hi hF x16 (fun k => Qw.W Qw.dy F F.length k.toNat) hkn (by omega) hkid).mono fun e w' h => h.cast ?_
      unfold Qw.at_
      cases wh
      · rw [if_neg (by simp), if_neg (by simp), Qw.W_in F.length i hi hi hkd, Qw.par, if_pos x16, Qw.txt, Qw.words, if_pos x16]
      · rw [if_pos rfl, if_pos rfl, Qw.txt, Qw.words, if_pos x16]
    rw [Qw.at_other F hg i hi wh x16]
    have noKids : ¬ F[i].kind = 14 → ¬ F[i].kind = 15 → F[i].kids = [] := by
      intro a b
      unfold Qu.parts at p5
      dsimp only at p5
      rw [if_neg a, if_neg b, if_neg x16, decide_eq_true_eq] at p5
      exact List.length_eq_zero_iff.1 p5
    have noName : ¬ F[i].kind = 2 → ¬ F[i].kind = 3 → ¬ F[i].kind = 4 → F[i].name.data.toList = [] := by
      intro a b c
      unfold Qu.parts at p1
      dsimp only at p1
      rw [if_neg (by omega), if_neg c] at p1
      exact Qw.emp_list _ p1
    by_cases x1 : F[i].kind = 1
    · refine (spW1 o F cap lo i wh w hi hF x1).mono fun e w' h => h.cast ?_
      rw [Qw.txt, noKids (by omega) (by omega), List.map_nil, Qw.words_plain F[i] 1 [] x1 (by decide) (noName (by omega) (by omega) (by omega)) (by decide), Qw.extra, x1]
      show _ = join [Qw.look 1 []] [32]
      decide
    by_cases x2 : F[i].kind = 2
    · refine (spW2 o F cap lo i wh w hi hF x2 hns).mono fun e w' h => h.cast ?_
      unfold Qu.parts at p1
      dsimp only at p1
      rw [if_pos (by omega)] at p1
      rw [Qw.txt, noKids (by omega) (by omega), List.map_nil, Qw.words, if_neg x16, Qw.extra, x2]
      show _ = join (Qw.keys 2 F[i].name.data.toList ++ []) [32]
      rw [List.append_nil, Qw.key2 _ (Qw.flag_len _ p1).2]
    by_cases x3 : F[i].kind = 3
    · refine (spW3 o F cap lo i wh w hi hF x3 hns).mono fun e w' h => h.cast ?_
      unfold Qu.parts at p1
      dsimp only at p1
      rw [if_pos (by omega)] at p1
      rw [Qw.txt, noKids (by omega) (by omega), List.map_nil, Qw.words, if_neg x16, Qw.extra, x3]
      show _ = join (Qw.keys 3 F[i].name.data.toList ++ []) [32]
      rw [List.append_nil, Qw.key3 _ (Qw.flag_len _ p1).2]
    have textLe : F[i].kind = 4 ∨ F[i].kind = 5 ∨ F[i].kind = 6 → F[i].text.size ≤ 200 := by
      intro a
      unfold Qu.parts at p2
      dsimp only at p2
      rw [if_pos a, decide_eq_true_eq] at p2
      exact p2
    by_cases x4 : F[i].kind = 4
    · refine (spW4 o F cap lo i wh w hi hF x4 hns (textLe (.inl x4))).mono fun e w' h => h.cast ?_
      unfold Qu.parts at p1
      dsimp only at p1
      rw [if_neg (by omega), if_pos x4] at p1
      rw [Qw.txt, noKids (by omega) (by omega), List.map_nil, Qw.words, if_neg x16, Qw.extra, x4]
      show _ = join (Qw.keys 4 F[i].name.data.toList ++ [Qw.quote F[i].text]) [32]
      rw [Qw.key4 _ _ (Qw.name_len _ p1).2]
    by_cases x5 : F[i].kind = 5
    · refine (spW5 o F cap lo i wh w hi hF x5 (textLe (by omega))).mono fun e w' h => h.cast ?_
      rw [Qw.txt, noKids (by omega) (by omega), List.map_nil, Qw.words_plain F[i] 5 [] x5 (by decide) (noName (by omega) (by omega) (by omega)) (by decide), Qw.extra, x5]
      show _ = join [Qw.look 5 [], Qw.quote F[i].text] [32]
      rw [Qw.join_two, show Qw.look 5 [] = [66, 79, 68, 89] from by decide]
      simp
    by_cases x6 : F[i].kind = 6
    · refine (spW6 o F cap lo i wh w hi hF x6 (textLe (by omega))).mono fun e w' h => h.cast ?_
      rw [Qw.txt, noKids (by omega) (by omega), List.map_nil, Qw.words_plain F[i] 6 [] x6 (by decide) (noName (by omega) (by omega) (by omega)) (by decide), Qw.extra, x6]
      show _ = join [Qw.look 6 [], Qw.quote F[i].text] [32]
      rw [Qw.join_two, show Qw.look 6 [] = [84, 69, 88, 84] from by decide]
      simp
    by_cases x7 : F[i].kind = 7
    · unfold Qu.parts at p3
      dsimp only at p3
      rw [if_pos (by omega), Bool.and_eq_true, decide_eq_true_eq, decide_eq_true_eq] at p3
      refine (spW7 o F cap lo i wh w hi hF x7 p3.1 p3.2).mono fun e w' h => h.cast ?_
      rw [Qw.txt, noKids (by omega) (by omega), List.map_nil, Qw.words_plain F[i] 7 [] x7 (by decide) (noName (by omega) (by omega) (by omega)) (by decide), Qw.extra, x7]
      show _ = join [Qw.look 7 [], Qw.dy F[i].num] [32]
      rw [Qw.join_two, show Qw.look 7 [] = [83, 73, 78, 67, 69] from by decide]
      simp
    by_cases x8 : F[i].kind = 8
    · unfold Qu.parts at p3
      dsimp only at p3
      rw [if_pos (by omega), Bool.and_eq_true, decide_eq_true_eq, decide_eq_true_eq] at p3
      refine (spW8 o F cap lo i wh w hi hF x8 p3.1 p3.2).mono fun e w' h => h.cast ?_
      rw [Qw.txt, noKids (by omega) (by omega), List.map_nil, Qw.words_plain F[i] 8 [] x8 (by decide) (noName (by omega) (by omega) (by omega)) (by decide), Qw.extra, x8]
      show _ = join [Qw.look 8 [], Qw.dy F[i].num] [32]
      rw [Qw.join_two, show Qw.look 8 [] = [66, 69, 70, 79, 82, 69] from by decide]
      simp
    by_cases x9 : F[i].kind = 9
    · unfold Qu.parts at p3
      dsimp only at p3
      rw [if_pos (by omega), Bool.and_eq_true, decide_eq_true_eq, decide_eq_true_eq] at p3
      refine (spW9 o F cap lo i wh w hi hF x9 p3.1 p3.2).mono fun e w' h => h.cast ?_
      rw [Qw.txt, noKids (by omega) (by omega), List.map_nil, Qw.words_plain F[i] 9 [] x9 (by decide) (noName (by omega) (by omega) (by omega)) (by decide), Qw.extra, x9]
      show _ = join [Qw.look 9 [], Qw.dy F[i].num] [32]
      rw [Qw.join_two, show Qw.look 9 [] = [79, 78] from by decide]
      simp
    by_cases x10 : F[i].kind = 10
    · unfold Qu.parts at p3
      dsimp only at p3
      rw [if_neg (by omega), if_pos (by omega), Bool.and_eq_true, decide_eq_true_eq, decide_eq_true_eq] at p3
      refine (spW10 o F cap lo i wh w hi hF x10 p3.1 p3.2).mono fun e w' h => h.cast ?_
      rw [Qw.txt, noKids (by omega) (by omega), List.map_nil, Qw.words_plain F[i] 10 [] x10 (by decide) (noName (by omega) (by omega) (by omega)) (by decide), Qw.extra, x10]
      show _ = join [Qw.look 10 [], decDigits F[i].num.toNat] [32]
      rw [Qw.join_two, show Qw.look 10 [] = [76, 65, 82, 71, 69, 82] from by decide]
      simp
    by_cases x11 : F[i].kind = 11
    · unfold Qu.parts at p3
      dsimp only at p3
      rw [if_neg (by omega), if_pos (by omega), Bool.and_eq_true, decide_eq_true_eq, decide_eq_true_eq] at p3
      refine (spW11 o F cap lo i wh w hi hF x11 p3.1 p3.2).mono fun e w' h => h.cast ?_
      rw [Qw.txt, noKids (by omega) (by omega), List.map_nil, Qw.words_plain F[i] 11 [] x11 (by decide) (noName (by omega) (by omega) (by omega)) (by decide), Qw.extra, x11]
      show _ = join [Qw.look 11 [], decDigits F[i].num.toNat] [32]
      rw [Qw.join_two, show Qw.look 11 [] = [83, 77, 65, 76, 76, 69, 82] from by decide]
      simp
    by_cases x13 : F[i].kind = 13
    · unfold Qu.parts at p3
      dsimp only at p3
      rw [if_neg (by omega), if_pos (by omega), Bool.and_eq_true, decide_eq_true_eq, decide_eq_true_eq] at p3
      refine (spW13 o F cap lo i wh w hi hF x13 p3.1 p3.2).mono fun e w' h => h.cast ?_
      rw [Qw.txt, noKids (by omega) (by omega), List.map_nil, Qw.words_plain F[i] 13 [] x13 (by decide) (noName (by omega) (by omega) (by omega)) (by decide), Qw.extra, x13]
      show _ = join [Qw.look 13 [], decDigits F[i].num.toNat] [32]
      rw [Qw.join_two, show Qw.look 13 [] = [77, 79, 68, 83, 69, 81] from by decide]
      simp
    by_cases x12 : F[i].kind = 12
    · unfold Qu.parts at p4
      dsimp only at p4
      rw [if_pos x12] at p4
      refine (spW12 o F cap lo i wh w hi hF x12 p4 hfi).mono fun e w' h => h.cast ?_
      rw [Qw.txt, noKids (by omega) (by omega), List.map_nil, Qw.words_plain F[i] 12 [] x12 (by decide) (noName (by omega) (by omega) (by omega)) (by decide), Qw.extra, x12]
      show _ = join [Qw.look 12 [], if Rg.rsOk F[i].uids then Rg.wr F[i].uids else []] [32]
      rw [Qw.join_two, show Qw.look 12 [] = [85, 73, 68] from by decide, if_pos p4]
      simp
    by_cases x14 : F[i].kind = 14
    · unfold Qu.parts at p5
      dsimp only at p5
      rw [if_pos x14, decide_eq_true_eq] at p5
      obtain ⟨k0, hk0⟩ := List.length_eq_one_iff.1 p5
      refine (spW14 o F cap lo i wh w hi hF x14 k0 hk0 _ (hkl k0 (by rw [hk0]; simp)) (hkid k0 (by rw [hk0]; simp))).mono fun e w' h => h.cast ?_
      rw [Qw.txt, hk0, Qw.words_plain F[i] 14 _ x14 (by decide) (noName (by omega) (by omega) (by omega)) (by decide), Qw.extra, x14]
      show _ = join [Qw.look 14 [], Qw.W Qw.dy F F.length k0.toNat] [32]
      rw [Qw.join_two, show Qw.look 14 [] = [78, 79, 84] from by decide]
      simp
    have x15 : F[i].kind = 15 := by omega
    unfold Qu.parts at p5
    dsimp only at p5
    rw [if_neg x14, if_pos x15, decide_eq_true_eq] at p5
    obtain ⟨k0, k1', hk0⟩ := len_two _ p5
    refine (spW15 o F cap lo i wh w hi hF x15 k0 k1' hk0 _ _ (hkl k0 (by rw [hk0]; simp)) (hkl k1' (by rw [hk0]; simp)) (hkid k0 (by rw [hk0]; simp)) (hkid k1' (by rw [hk0]; simp))).mono fun e w' h => h.cast ?_
    rw [Qw.txt, hk0, Qw.words_plain F[i] 15 _ x15 (by decide) (noName (by omega) (by omega) (by omega)) (by decide), Qw.extra, x15]
    show _ = join [Qw.look 15 [], Qw.W Qw.dy F F.length k0.toNat, Qw.W Qw.dy F F.length k1'.toNat] [32]
    rw [Qw.join_three, show Qw.look 15 [] = [79, 82] from by decide]
    simp
abbrev plWriteQuery (F : List GQueryNode) : ByteArray := txB (Qw.out Qw.dy F)
theorem Qw.top_at (F : List GQueryNode) (hg : Qu.good F = true) (n : Nat) (hn : F.length = n + 1) (hi : n < F.length) : Qw.at_ F n hi true = Qw.top Qw.dy F := by
  unfold Qw.at_ Qw.top
  rw [if_pos rfl, show F.length - 1 = n by omega, List.getElem?_eq_getElem hi]
  dsimp only
  rw [Qw.W_kids F.length n (by omega) _ (Qw.good_kids hg n hi)]
set_option maxHeartbeats 4000000 in
theorem specWriteQuery (o : Option Addr) (F : List GQueryNode) (cap lo : Nat) (w : World) (hF : GQueryNodesL lo w.heap.size w o F) (hl : F.length ≤ 1048576) (hf : ∀ f ∈ F, f.fits 1048576) :
    Calls Tryz.prog 5 #[.slice o F.length cap] w fun e w' => e = .returned (.string (plWriteQuery F)) ∧ Below w.heap.size w w' := by
  have cF := mkHid (specQueryFault o F cap lo w hF hl hf)
  unfold plWriteQuery plQueryFault at *
  cases hg : Qu.good F
  · rw [hg] at cF
    have hr : Qw.out Qw.dy F = [] := by rw [Qw.out, hg]; rfl
    rw [hr]
    clear hr hF hf
    go_enter Tryz.func5, Tryz.ntmps5
    go_wp2_with fail
    refine cF.out.mono ?_
    rintro e w1 ⟨rfl, hb1⟩
    simp only [St.code]
    go_wp2
    go_ret
    exact ⟨rfl, hb1⟩
  · rw [hg] at cF
    obtain ⟨h1, h100, -⟩ := Qw.good_all hg
    obtain ⟨n, hn⟩ : ∃ n, F.length = n + 1 := ⟨F.length - 1, by omega⟩
    have hi : n < F.length := by omega
    have cW : Hid (∀ W : World, Below w.heap.size w W → Calls Tryz.prog 11 #[.slice o F.length cap, .int .i64 n, .bool true] W fun e w' => e = .returned (.string (txB (Qw.top Qw.dy F))) ∧ Below W.heap.size W w') := fun W hb =>
      (specWrite o F cap lo hg hf (n + 1) n hi (by omega) true W ((hF.below hb (Nat.le_refl _)).mono (Nat.le_refl _) hb.size)).mono fun e w' h => by
        have := RetT.eq h
        rw [Qw.top_at F hg n hn hi] at this
        exact this
    have hnI : (F.length : Int) - 1 = (n : Int) := by omega
    have hts := txB_size (Qw.top Qw.dy F)
    have htl : (Qw.top Qw.dy F).length ≤ 300000 := by
      have := (Qw.good_len dy_len hg n hi).2
      rw [← Qw.top_at F hg n hn hi, Qw.at_, if_pos rfl]
      exact this
    obtain ⟨R, hR⟩ : ∃ R, txB (Qw.out Qw.dy F) = R := ⟨_, rfl⟩
    rw [hR]
    rw [Qw.out, hg, if_pos rfl] at hR
    replace hn := mkHid hn
    by_cases h2 : (Qw.top Qw.dy F).length ≤ 2000
    · rw [if_pos h2] at hR
      rw [hR] at cW hts
      have b2 : decide ((2000 : Int) < (R.size : Int)) = false := by simp; omega
      clear hF hf hR hg
      go_enter Tryz.func5, Tryz.ntmps5
      go_wp2_with fail
      refine cF.out.mono ?_
      rintro e w1 ⟨rfl, hb1⟩
      simp only [St.code]
      go_wp2_with fail
      refine (cW.out w1 hb1).mono ?_
      rintro e w2 ⟨rfl, hb2⟩
      go_wp2
      go_ret
      exact ⟨rfl, hb1.trans (hb2.mono hb1.size)⟩
    · rw [if_neg h2] at hR
      generalize txB (Qw.top Qw.dy F) = t at *
      have b2 : decide ((2000 : Int) < (t.size : Int)) = true := by simp; omega
      have hr : Hid (R = ⟨#[]⟩) := show _ = _ from hR.symm
      clear hF hf hR hg
      go_enter Tryz.func5, Tryz.ntmps5
      go_wp2_with fail
      refine cF.out.mono ?_
      rintro e w1 ⟨rfl, hb1⟩
      simp only [St.code]
      go_wp2_with fail
      refine (cW.out w1 hb1).mono ?_
      rintro e w2 ⟨rfl, hb2⟩
      go_wp2
      go_ret
      rw [hr.out]
      exact ⟨rfl, hb1.trans (hb2.mono hb1.size)⟩
end Go.Proofs.YtfaeckaeaeadeaaGreatDoor
