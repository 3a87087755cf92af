
/- What a client sends, as one list of texts: plain. -/
import Derived.Test.YthgjflgidalmlaaDoorClientPlain
namespace Go.Proofs.YthgjflgidalmlaaDoor
namespace Ct
def cat (xs : List ByteArray) : ByteArray := ⟨((xs.map (·.data.toList)).flatten).toArray⟩
set_option maxRecDepth 20000 in
theorem toL_app (a b : ByteArray) : (a ++ b).data.toList = a.data.toList ++ b.data.toList := by simp [ByteArray.data_append]
set_option maxRecDepth 20000 in
theorem baExt (a b : ByteArray) (h : a.data.toList = b.data.toList) : a = b := ByteArray.ext (Array.toList_inj.1 h)
set_option maxRecDepth 20000 in
theorem cat_app (xs ys : List ByteArray) : cat (xs ++ ys) = cat xs ++ cat ys := by
  apply baExt
  rw [toL_app]
  simp [cat]
set_option maxRecDepth 20000 in
theorem cat_size (xs ys : List ByteArray) : (cat xs).size ≤ (cat (xs ++ ys)).size := by
  rw [cat_app, ByteArray.size_append]
  omega
def gt : ByteArray := ⟨#[62]⟩
def nl : ByteArray := ⟨#[13, 10]⟩
def rcT (t : ByteArray) : List ByteArray := [rcptA, t, gt, nl]
def stT (m : GAccepted) : ByteArray := ⟨(Pl.stuff m.message.data.toList).toArray⟩
def mailT (m : GAccepted) : List ByteArray := [mailA, m.fromF, gt, nl] ++ (m.toF.map rcT).flatten ++ [⟨#[68, 65, 84, 65]⟩, nl, stT m]
def txts (n : ByteArray) (M : List GAccepted) : List ByteArray := [ehloA, n, nl] ++ (M.map mailT).flatten ++ [⟨#[81, 85, 73, 84]⟩, nl]
def snd (m : GAccepted) : Bool := fromOk m.fromF && (decide (1 ≤ m.toF.length) && (decide (m.toF.length ≤ 100) && (m.toF.all Ky.ok && (endsLine m.message && (decide (m.message.size ≤ 100000) && (m.user.toList == ([] : List UInt8)))))))
set_option maxRecDepth 20000 in
theorem rc_eq : ∀ (F : List ByteArray) (o : ByteArray), rc F o = if F.all Ky.ok then some (o ++ cat ((F.map rcT).flatten)) else none
  | [], o => by
    rw [rc]
    show some o = some (o ++ cat [])
    congr 1
    apply baExt
    rw [toL_app]
    simp [cat]
  | t :: r, o => by
    rw [rc, rc_eq r, List.all_cons]
    cases ht : Ky.ok t
    · rfl
    · rw [Bool.true_and]
      cases hr : r.all Ky.ok
      · rfl
      · show some _ = some _
        congr 1
        apply baExt
        simp only [toL_app, List.map_cons, List.flatten_cons, cat_app]
        simp [cat, rcT, gt, nl]
set_option maxRecDepth 20000 in
theorem one_eq (m : GAccepted) (o : ByteArray) : one m o = if snd m then few (o ++ cat (mailT m)) else none := by
  unfold one hd snd
  rw [rc_eq]
  have e : ∀ x : ByteArray, x = o ++ mailA ++ m.fromF ++ endA ++ cat ((m.toF.map rcT).flatten) ++ dataA ++ ⟨(Pl.stuff m.message.data.toList).toArray⟩ → x = o ++ cat (mailT m) := by
    intro x hx
    rw [hx]
    apply baExt
    simp only [toL_app, mailT, cat_app]
    simp [cat, gt, nl, stT]
  cases fromOk m.fromF <;> cases decide (1 ≤ m.toF.length) <;> cases decide (m.toF.length ≤ 100) <;> cases decide (m.message.size ≤ 100000) <;> cases endsLine m.message <;> cases (m.user.toList == ([] : List UInt8)) <;> cases m.toF.all Ky.ok <;> first | rfl | (rw [← e _ rfl]; rfl)
set_option maxRecDepth 20000 in
theorem fewY {x : ByteArray} (h : x.size ≤ 100000) : few x = some x := by unfold few; rw [if_pos h]
set_option maxRecDepth 20000 in
theorem fewN {x : ByteArray} (h : ¬ x.size ≤ 100000) : few x = none := by unfold few; rw [if_neg h]
set_option maxRecDepth 20000 in
theorem all_eq : ∀ (M : List GAccepted) (o : ByteArray), all M o = if M.all snd = true ∧ (M = [] ∨ (o ++ cat ((M.map mailT).flatten)).size ≤ 100000) then some (o ++ cat ((M.map mailT).flatten)) else none
  | [], o => by
    rw [all, if_pos ⟨rfl, Or.inl rfl⟩]
    congr 1
    apply baExt
    rw [toL_app]
    simp [cat]
  | m :: r, o => by
    have ec : o ++ cat (((m :: r).map mailT).flatten) = o ++ cat (mailT m) ++ cat ((r.map mailT).flatten) := by
      rw [List.map_cons, List.flatten_cons, cat_app, ← ByteArray.append_assoc]
    rw [all, one_eq, ec, List.all_cons]
    cases hs : snd m
    · rw [if_neg (by simp), if_neg (by simp)]
      rfl
    · rw [if_pos rfl]
      by_cases hx : (o ++ cat (mailT m)).size ≤ 100000
      · rw [fewY hx]
        show all r _ = _
        rw [all_eq r]
        by_cases ha : r.all snd = true
        · by_cases hr : r = []
          · subst hr
            have e0 : ∀ x : ByteArray, x ++ cat ((([] : List GAccepted).map mailT).flatten) = x := fun x => by
              apply baExt
              rw [toL_app]
              simp [cat]
            rw [if_pos ⟨ha, Or.inl rfl⟩, if_pos ⟨by rw [ha]; rfl, Or.inr (by rw [e0]; exact hx)⟩]
          · by_cases hz : (o ++ cat (mailT m) ++ cat ((r.map mailT).flatten)).size ≤ 100000
            · rw [if_pos ⟨ha, Or.inr hz⟩, if_pos ⟨by rw [ha]; rfl, Or.inr hz⟩]
            · rw [if_neg (by rintro ⟨-, h | h⟩; exact hr h; exact hz h), if_neg (by rintro ⟨-, h | h⟩; cases h; exact hz h)]
        · rw [if_neg (fun h => ha h.1), if_neg (fun h => ha (by have := h.1; rwa [Bool.true_and] at this))]
      · rw [fewN hx, if_neg]
        · rfl
        · rintro ⟨-, h | h⟩
          · cases h
          · rw [ByteArray.size_append] at h; omega
set_option maxRecDepth 20000 in
theorem run_eq (n : ByteArray) (M : List GAccepted) : plClientText n M = if (Pl.domI n.data.toList && (decide (1 ≤ M.length) && decide (M.length ≤ 100)) && M.all snd) = true then (few (cat (txts n M))).getD ⟨#[]⟩ else ⟨#[]⟩ := by
  unfold plClientText run
  cases hd : (Pl.domI n.data.toList && (decide (1 ≤ M.length) && decide (M.length ≤ 100)))
  · rfl
  · rw [if_pos rfl, Bool.true_and, all_eq]
    have hM : M ≠ [] := by
      intro e
      subst e
      simp at hd
    have ec : cat (txts n M) = ehloA ++ n ++ ⟨#[13, 10]⟩ ++ cat ((M.map mailT).flatten) ++ quitA := by
      apply baExt
      simp only [txts, cat_app, toL_app]
      simp [cat, nl]
    rw [ec]
    cases ha : M.all snd
    · rw [if_neg (by simp), if_neg (by simp)]
      rfl
    · rw [if_pos rfl]
      by_cases hz : (ehloA ++ n ++ ⟨#[13, 10]⟩ ++ cat ((M.map mailT).flatten)).size ≤ 100000
      · rw [if_pos ⟨rfl, Or.inr hz⟩]
        rfl
      · rw [if_neg (by rintro ⟨-, h | h⟩; exact hM h; exact hz h), fewN (by rw [ByteArray.size_append]; omega)]
        rfl
set_option maxRecDepth 20000 in
theorem mailT_len (m : GAccepted) : (mailT m).length = 7 + 4 * m.toF.length := by
  have : ∀ F : List ByteArray, ((F.map rcT).flatten).length = 4 * F.length := by
    intro F
    induction F with
    | nil => rfl
    | cons a r ih => rw [List.map_cons, List.flatten_cons, List.length_append, ih]; simp [rcT]; omega
  rw [mailT, List.length_append, List.length_append, this]
  simp
  omega
end Ct
end Go.Proofs.YthgjflgidalmlaaDoor
