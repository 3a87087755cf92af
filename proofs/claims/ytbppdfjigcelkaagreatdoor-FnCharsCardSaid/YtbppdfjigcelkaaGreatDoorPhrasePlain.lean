
/- Drawn patterns and what is told of them: plain. -/

/- A source of draws: a draw by its value; a text that is spoiled. -/

/- A list of numbers behind another one. -/

/- Plain mathematics of Phrase: lists of bytes alone; no program. -/
import Derived.Test.YtbppdfjigcelkaaGreatDoorWildPlain
import Derived.Test.YtbppdfjigcelkaaGreatDoorAnyPhase
import Derived.Test.YtbppdfjigcelkaaGreatDoorNinePlain
import Derived.Laws.OwnMore
import Derived.Test.YtbppdfjigcelkaaGreatDoorBytes
import Derived.Lib.SplitLaws
namespace Go.Proofs.YtbppdfjigcelkaaGreatDoor
namespace Wi
/-- A draw below most (at most 200) at a place of a code. -/
def nv (c : List UInt8) (a most : Nat) : Nat := if c.length = 0 then a * 7 % most else ((c.getD (a % c.length) 0).toNat + a / c.length * 37) % most
def K (c : List UInt8) : Nat := if c.length = 0 then 1 else c.length
set_option maxRecDepth 20000 in
theorem nv_on (c : List UInt8) (a : Nat) (h : nv c a 6 = 0) : nv c (a + 2 * K c) 6 ≠ 0 := by
  unfold nv K at *
  by_cases hc : c.length = 0
  · rw [if_pos hc] at h ⊢
    rw [if_pos hc]
    omega
  · rw [if_neg hc] at h ⊢
    rw [if_neg hc, Nat.add_mul_mod_self_right, Nat.add_mul_div_right _ _ (by omega)]
    generalize (c.getD (a % c.length) 0).toNat = x at *
    generalize a / c.length = y at *
    omega
def wt (c : List UInt8) (a : Nat) : Nat := srch (fun j => decide (nv c (a + 2 * j) 6 ≠ 0)) (K c + 1) 0
set_option maxRecDepth 20000 in
theorem wt_has (c : List UInt8) (a : Nat) : wt c a ≤ K c ∧ nv c (a + 2 * wt c a) 6 ≠ 0 := by
  by_cases h : nv c a 6 = 0
  · obtain ⟨-, h2, h3⟩ := first_of (fun j => decide (nv c (a + 2 * j) 6 ≠ 0)) (K c + 1) 0 (K c) (Nat.zero_le _) (by simpa using nv_on c a h) (by omega)
    exact ⟨h2, of_decide_eq_true h3⟩
  · obtain ⟨-, h2, h3⟩ := first_of (fun j => decide (nv c (a + 2 * j) 6 ≠ 0)) (K c + 1) 0 0 (Nat.zero_le _) (by simpa using h) (by omega)
    exact ⟨Nat.le_trans h2 (Nat.zero_le _), of_decide_eq_true h3⟩
set_option maxRecDepth 20000 in
theorem srch_min (f : Nat → Bool) (n k0 j : Nat) (h0 : k0 ≤ j) (h : j < srch f n k0) : f j = false := by
  induction n generalizing k0 with
  | zero => unfold srch at h; omega
  | succ n ih =>
    unfold srch at h
    by_cases e : f k0 = true
    · rw [if_pos e] at h; omega
    · rw [if_neg e] at h
      by_cases hk : j = k0
      · subst hk; simpa using e
      · exact ih (k0 + 1) (by omega) h
set_option maxRecDepth 20000 in
theorem wt_step (c : List UInt8) (a : Nat) (h : nv c a 6 = 0) : wt c a = wt c (a + 2) + 1 := by
  obtain ⟨h1, h2⟩ := wt_has c a
  have hp : 0 < wt c a := by
    rcases Nat.eq_zero_or_pos (wt c a) with e | e
    · rw [e] at h2; exact absurd h h2
    · exact e
  have : wt c (a + 2) = wt c a - 1 := by
    refine srch_eq _ _ _ _ (Nat.zero_le _) ?_ ?_ (by omega)
    · simp only [decide_eq_true_eq]
      rw [show a + 2 + 2 * (wt c a - 1) = a + 2 * wt c a by omega]
      exact h2
    · intro j _ hj
      have := srch_min (fun j => decide (nv c (a + 2 * j) 6 ≠ 0)) (K c + 1) 0 (j + 1) (Nat.zero_le _) (by show j + 1 < wt c a; omega)
      show decide (nv c (a + 2 + 2 * j) 6 ≠ 0) = false
      rw [show a + 2 + 2 * j = a + 2 * (j + 1) by omega]
      exact this
  omega
/-- How much is left of the loop that draws a pattern. -/
def more (c : List UInt8) (m i a : Nat) : Nat := (m - i) * (K c + 1) + wt c a
set_option maxRecDepth 20000 in
theorem more_on (c : List UInt8) (m i a i' a' : Nat) (hi : i < m) (h : i < i') : more c m i' a' + 1 ≤ more c m i a := by
  unfold more
  have h1 := (wt_has c a').1
  have h2 : (m - i') * (K c + 1) + (K c + 1) ≤ (m - i) * (K c + 1) := by
    rw [← Nat.succ_mul]
    exact Nat.mul_le_mul_right _ (by omega)
  generalize (m - i') * (K c + 1) = x at *
  generalize (m - i) * (K c + 1) = y at *
  omega
set_option maxRecDepth 20000 in
theorem more_stay (c : List UInt8) (m i a : Nat) (h : nv c a 6 = 0) : more c m i (a + 2) + 1 = more c m i a := by
  unfold more
  rw [wt_step c a h]
  omega
set_option maxRecDepth 20000 in
theorem K_le (c : List UInt8) (h : c.length ≤ 1048576) : K c ≤ 1048576 := by unfold K; split <;> omega
set_option maxRecDepth 20000 in
theorem more_le (c : List UInt8) (m a : Nat) (h : c.length ≤ 1048576) (hm : m ≤ 40) : more c m 0 a ≤ 45000000 := by
  unfold more
  have h1 := (wt_has c a).1
  have h2 := K_le c h
  have h3 : (m - 0) * (K c + 1) ≤ 40 * 1048577 := Nat.mul_le_mul (by omega) (by omega)
  generalize (m - 0) * (K c + 1) = x at *
  omega

set_option maxRecDepth 20000 in
theorem lower_app (a b : List UInt8) : lower (a ++ b) = lower a ++ lower b := by simp [lower]
set_option maxRecDepth 20000 in
theorem lower_len (a : List UInt8) : (lower a).length = a.length := by simp [lower]
set_option maxRecDepth 20000 in
theorem marks_pre (P : List Int) (L t : List UInt8) (a b : Nat) (h : a ≤ b) : ∃ r, marksTo P L t b = marksTo P L t a ++ r := by
  induction b with
  | zero => obtain rfl : a = 0 := by omega
            exact ⟨[], by simp⟩
  | succ b ih =>
    by_cases e : a = b + 1
    · subst e; exact ⟨[], by simp⟩
    · obtain ⟨r, hr⟩ := ih (by omega)
      rw [marksTo, hr]
      exact ⟨_, by rw [List.append_assoc]⟩
set_option maxRecDepth 20000 in
/-- The mark of a star or point among those that are told. -/
theorem told_get (P : List Int) (L t : List UInt8) (j : Nat) (h : j < P.length) (hx : P[j] < 0) (k : Nat) (hk : k = 1 + (marksTo P L t j).length) (h10 : k < 10) :
    (told P L t P.length)[k]? = some ((t.drop (pos P L j)).take (pos P L (j + 1) - pos P L j)) := by
  obtain ⟨r, hr⟩ := marks_pre P L t (j + 1) P.length (by omega)
  rw [marksTo_wild P L t j h hx] at hr
  unfold told
  rw [hr, List.getElem?_take_of_lt h10, hk, show 1 + (marksTo P L t j).length = (marksTo P L t j).length + 1 from Nat.add_comm _ _, List.getElem?_cons_succ, List.append_assoc, List.getElem?_append_right (Nat.le_refl _), Nat.sub_self]
  rfl
/-- Where the law's loop stands: i bytes of the pattern, j items, k texts that are used, the text so far. -/
structure At (p t : List UInt8) (i j k : Nat) (all : List UInt8) : Prop where
  hi : i ≤ p.length
  hj : j ≤ (items p).length
  rest : (items p).drop j = items (p.drop i)
  hk : k = 1 + (marksTo (items p) (lower t) t j).length
  text : lower all = (lower t).take (pos (items p) (lower t) j)
set_option maxRecDepth 20000 in
theorem At.start (p t : List UInt8) : At p t 0 0 1 [] := ⟨Nat.zero_le _, Nat.zero_le _, rfl, rfl, rfl⟩
set_option maxRecDepth 20000 in
theorem At.len {p t : List UInt8} {i j k : Nat} {all : List UInt8} (h : At p t i j k all) (hF : F (items p) (lower t) 0 0 = true) : all.length = pos (items p) (lower t) j := by
  have := congrArg List.length h.text
  have hp := (pos_F _ _ hF j h.hj).1
  rw [lower_len, List.length_take, lower_len] at this
  rw [lower_len] at hp
  omega
set_option maxRecDepth 20000 in
theorem drop_cons {α : Type} {l r : List α} {j : Nat} {x : α} (h : l.drop j = x :: r) : ∃ hj : j < l.length, l[j] = x ∧ l.drop (j + 1) = r := by
  have hj : j < l.length := by
    by_cases hj : j < l.length
    · exact hj
    · rw [List.drop_eq_nil_of_le (by omega)] at h; cases h
  rw [List.drop_eq_getElem_cons hj] at h
  injection h with h1 h2
  exact ⟨hj, h1, h2⟩
set_option maxRecDepth 20000 in
theorem cat_mark (t all : List UInt8) (a b : Nat) (h : lower all = (lower t).take a) (hab : a ≤ b) : lower (all ++ (t.drop a).take (b - a)) = (lower t).take b := by
  rw [lower_app, h]
  have : lower ((t.drop a).take (b - a)) = ((lower t).drop a).take (b - a) := by simp [lower, List.map_take, List.map_drop]
  rw [this, show b = a + (b - a) by omega, List.take_add, show a + (b - a) - a = b - a by omega]
set_option maxRecDepth 20000 in
theorem At.wild {p t : List UInt8} {i j k : Nat} {all : List UInt8} (h : At p t i j k all) (hF : F (items p) (lower t) 0 0 = true) (hi : i < p.length) (x : Int) (hx : x < 0) (hit : items (p.drop i) = x :: items (p.drop (i + 1))) (h10 : k < 10) :
    ∃ m, (told (items p) (lower t) t (items p).length)[k]? = some m ∧ (x = -2 → m.length = 1) ∧ m.length ≤ t.length ∧ At p t (i + 1) (j + 1) (k + 1) (all ++ m) := by
  obtain ⟨hj, e1, e2⟩ := drop_cons (h.rest.trans hit)
  have hmo := pos_mono _ _ hF j hj
  have hle := (pos_F _ _ hF (j + 1) hj).1
  rw [lower_len] at hle
  refine ⟨_, told_get (items p) (lower t) t j hj (by rw [e1]; exact hx) k h.hk h10, ?_, ?_, by omega, by omega, e2, ?_, cat_mark t all _ _ h.text hmo⟩
  · intro h2
    have := pos_one _ (lower t) j hj (by rw [e1, h2]; decide)
    rw [List.length_take, List.length_drop]
    omega
  · rw [List.length_take, List.length_drop]; omega
  · rw [marksTo_wild _ _ _ _ hj (by rw [e1]; exact hx), List.length_append, h.hk]
    simp
    omega
set_option maxRecDepth 20000 in
theorem At.byte {p t : List UInt8} {i j k : Nat} {all : List UInt8} (h : At p t i j k all) (hF : F (items p) (lower t) 0 0 = true) (i' : Nat) (hi : i' ≤ p.length) (c : UInt8) (hit : items (p.drop i) = ((small c).toNat : Int) :: items (p.drop i')) :
    At p t i' (j + 1) k (all ++ [c]) := by
  obtain ⟨hj, e1, e2⟩ := drop_cons (h.rest.trans hit)
  have hs : (items p)[j] ≠ -1 := by rw [e1]; omega
  obtain ⟨-, hFj⟩ := pos_F _ _ hF j (by omega)
  obtain ⟨hl, hok, -⟩ := F_one_fwd _ _ j _ hj hs hFj
  have hc : (lower t)[pos (items p) (lower t) j] = small c := by
    rw [e1] at hok
    unfold ok at hok
    have h2 : (((small c).toNat : Int) == -2) = false := by simp
    rw [h2, Bool.false_or] at hok
    simp at hok
    exact (UInt8.toNat_inj.1 (by omega)).symm
  refine ⟨hi, by omega, e2, ?_, ?_⟩
  · rw [marksTo_byte _ _ _ _ hj (by rw [e1]; omega)]
    exact h.hk
  · rw [lower_app, h.text, pos_one _ _ _ hj hs, List.take_succ_eq_append_getElem hl, hc]
    rfl
set_option maxRecDepth 20000 in
theorem At.done {p t : List UInt8} {i j k : Nat} {all : List UInt8} (h : At p t i j k all) (hF : F (items p) (lower t) 0 0 = true) (hi : p.length ≤ i) : lower all = lower t := by
  have e := h.rest
  rw [List.drop_eq_nil_of_le hi] at e
  have hj : (items p).length ≤ j := by
    have := congrArg List.length e
    simp [items] at this
    omega
  have hF2 := (pos_F _ _ hF j h.hj).2
  rw [F_end _ _ _ _ hj] at hF2
  rw [h.text, List.take_of_length_le (by simpa using hF2)]
set_option maxRecDepth 20000 in
/-- What stands first is the text. -/
theorem told_zero (P : List Int) (L t : List UInt8) (i : Nat) : (told P L t i)[0]? = some t := by
  unfold told
  rfl
set_option maxRecDepth 20000 in
theorem wild_cases (p t : List UInt8) : (F (items p) (lower t) 0 0 = false ∧ wild p t = []) ∨ (F (items p) (lower t) 0 0 = true ∧ wild p t = told (items p) (lower t) t (items p).length ∧ 0 < (wild p t).length) := by
  unfold wild
  cases h : F (items p) (lower t) 0 0
  · exact .inl ⟨rfl, rfl⟩
  · refine .inr ⟨rfl, rfl, ?_⟩
    rw [if_pos rfl]
    unfold told
    simp
end Wi
end Go.Proofs.YtbppdfjigcelkaaGreatDoor
namespace Go.Proofs.YtbppdfjigcelkaaGreatDoor
open Go.RowKit Go.Lib
set_option maxRecDepth 20000 in
set_option maxHeartbeats 2000000 in
/-- A draw below a small number, told by its value. -/
theorem srcNV (g : Nat) (o : Option Addr) (c : List UInt8) (cp a z : Nat) (most : Nat) (w : World) (h : Src w g o c.length cp a z) (hc : Code g w o c) (ha : a ≤ 1000000000000) (hl : c.length ≤ 1048576) (hm : most ≤ 200) (h1 : 1 ≤ most) :
    Calls Tryz.prog 17 #[.pointer (some ⟨g, 0, none⟩), .int .i64 (most : Int)] w fun e w' => e = .returned (.int .i64 (Wi.nv c a most)) ∧ Src w' g o c.length cp (a + 1) z ∧ w.grownBy w' (some g) := by
  have c0 := h.c0
  have c1 := h.c1
  have f1 := h.f1
  have Hs : Hid (Src (w.setCell ⟨g, 1, none⟩ (.int .i64 ((a : Int) + 1))) g o c.length cp (a + 1) z) := h.set1 _ _ (by omega)
  have hg := gr_set w g 1 (.int .i64 ((a : Int) + 1))
  have Hg : Hid (w.grownBy (w.setCell ⟨g, 1, none⟩ (.int .i64 ((a : Int) + 1))) (some g)) := hg
  have HC : Hid (Code g (w.setCell ⟨g, 1, none⟩ (.int .i64 ((a : Int) + 1))) o c) := hc.grown hg (Nat.le_refl _)
  clear h hc hg
  by_cases hz : c.length = 0
  · have hz2 : ((c.length : Int) == 0) = true := by rw [hz]; rfl
    have hv : Hid (((Wi.nv c a most : Nat) : Int) = (a : Int) * 7 % (most : Int)) := by
      unfold Wi.nv
      rw [if_pos hz]
      exact rfl
    go_enter Tryz.func17, Tryz.ntmps17
    go_wp2
    go_ret
    refine ⟨?_, Hs.out, Hg.out⟩
    rw [hv.out]
    rfl
  · have hz2 : ((c.length : Int) == 0) = false := beq_eq_false_iff_ne.2 (by omega)
    obtain ⟨r, hr⟩ : ∃ r, a % c.length = r := ⟨_, rfl⟩
    obtain ⟨q, hq⟩ : ∃ q, a / c.length = q := ⟨_, rfl⟩
    have hrl : r < c.length := by rw [← hr]; exact Nat.mod_lt _ (by omega)
    have hql : q ≤ a := by rw [← hq]; exact Nat.div_le_self _ _
    have hrI : (a : Int) % (c.length : Int) = (r : Int) := by rw [← hr]; rfl
    have hqI : (a : Int) / (c.length : Int) = (q : Int) := by rw [← hq]; rfl
    obtain ⟨ad, rfl, had, k1⟩ := HC.out r hrl
    have b1 : c[r].toNat < 256 := UInt8.toNat_lt _
    have hv : Hid (((Wi.nv c a most : Nat) : Int) = ((c[r].toNat : Int) + (q : Int) * 37) % (most : Int)) := by
      unfold Wi.nv
      rw [if_neg hz, hr, hq, List.getD_eq_getElem?_getD, List.getElem?_eq_getElem hrl]
      exact rfl
    generalize c[r].toNat = x1 at *
    have hne : ¬ (c.length : Int) = 0 := by omega
    have hbig : ¬ (200 : Int) < (most : Int) := by omega
    clear hr hq HC hz
    go_enter Tryz.func17, Tryz.ntmps17
    go_wp2
    go_quiet (fail)
    obtain ⟨V, hV⟩ : ∃ V, V = (w.setCell ⟨g, 1, none⟩ (.int .i64 ((a : Int) + 1))).drewN nq := ⟨_, rfl⟩
    have HsV : Hid (Src V g (some ad) c.length cp (a + 1) z) := by rw [hV]; exact ⟨Hs.out.blk⟩
    have HgV : Hid (w.grownBy V (some g)) := by rw [hV]; exact gr_trans Hg.out (gr_below (below_drewN (Below.refl _ _) _))
    rw [← hV]
    clear hV k1 c0 c1 f1 Hs Hg
    go_wp2
    go_ret
    refine ⟨?_, HsV.out, HgV.out⟩
    rw [hv.out]
    rfl
set_option maxRecDepth 20000 in
theorem Code.drewC {B : Nat} {w : World} {o : Option Addr} {c : List UInt8} (h : Code B w o c) : Code B w.drew o c := h
set_option maxHeartbeats 2000000 in
set_option maxRecDepth 10000 in
theorem srcSpoil (g : Nat) (o : Option Addr) (c : List UInt8) (cp a z : Nat) (t : ByteArray) (w : World) (h : Src w g o c.length cp a z) (hc : Code g w o c) (ha : a ≤ 800000000000) (hl : c.length ≤ 1048576) (ht : t.size ≤ 1000000000) :
    Calls Tryz.prog 35 #[.pointer (some ⟨g, 0, none⟩), .string t] w fun e w' => ∃ (q : ByteArray) (a' : Nat), e = .returned (.string q) ∧ q.size ≤ t.size + 9 ∧ a' ≤ a + 20 ∧ Src w' g o c.length cp a' z ∧ w.grownBy w' (some g) := by
  have HC : Hid (Code g w o c) := hc
  have Hs0 : Hid (Src w g o c.length cp a z) := h
  clear hc h
  by_cases h0 : t.size = 0
  · have h0' : ((t.size : Int) == 0) = true := by rw [h0]; rfl
    go_enter Tryz.func35, Tryz.ntmps35
    go_wp2_with fail
    refine (srcN g o c cp a z 3 _ Hs0.out HC.out (by omega) hl (by omega) (by omega)).mono ?_
    rintro e w1 ⟨v, rfl, hv, hs1, hg1⟩
    have hb := srcBytes g o c cp (a + 1) z (1 + v) w1 hs1 (HC.out.grown hg1 (Nat.le_refl _)) (by omega) hl (by omega)
    rw [show ((1 + v : Nat) : Int) = 1 + (v : Int) by omega] at hb
    have Hg1 := mkH hg1
    clear hs1 hg1
    go_wp2_with fail
    refine hb.mono ?_
    rintro e w2 ⟨u, a2, rfl, hu, ha2, hs2, hg2⟩
    have Hs2 := mkH hs2
    have Hg2 := mkH (gr_trans Hg1.out hg2)
    clear hs2 hg2 hb
    go_wp2
    go_ret
    exact ⟨_, a2, rfl, by omega, by omega, Hs2.out, Hg2.out⟩
  · have h0' : ((t.size : Int) == 0) = false := beq_eq_false_iff_ne.2 (by omega)
    go_enter Tryz.func35, Tryz.ntmps35
    go_wp2_with fail
    refine (srcN g o c cp a z (t.size : Int) _ Hs0.out HC.out (by omega) hl (by omega) (by omega)).mono ?_
    rintro e w1 ⟨k, rfl, hk, hs1, hg1⟩
    have Hs1 := mkH hs1
    have Hg1 := mkH hg1
    clear hs1 hg1
    go_wp2_with fail
    refine (srcN g o c cp (a + 1) z 4 _ Hs1.out (HC.out.grown Hg1.out (Nat.le_refl _)) (by omega) hl (by omega) (by omega)).mono ?_
    rintro e w2 ⟨v2, rfl, hv2, hs2, hg2⟩
    have Hs2 := mkH hs2
    have Hg2 := mkH (gr_trans Hg1.out hg2)
    clear hs2 hg2 Hs1
    have hkt : k < t.size := by omega
    have hx1 : (t.extract 0 k).size = k := by rw [ByteArray.size_extract]; omega
    by_cases he : t.size < k + v2
    · have hx2 : (t.extract t.size t.size).size = 0 := by rw [ByteArray.size_extract]; omega
      go_wp2
      refine wp_region_any (by kernel_rfl) ?_
      refine wpAny_take (i := 0) (v := .string t) rfl (by kernel_rfl) (by kernel_rfl) (by kernel_rfl) (fun _ _ _ h => h) (Or.inl ⟨by rfl, ?_⟩) ?_
      · intro w
        go_simp
        all_goals first | done | omega | (intro h; exfalso; omega)
      go_simp
      refine wpAny_take (i := 1) (v := .int .i64 k) rfl (by kernel_rfl) (by kernel_rfl) (by kernel_rfl) (fun _ _ _ h => h) (Or.inl ⟨by rfl, ?_⟩) ?_
      · intro w
        go_simp
        all_goals first | done | omega | (intro h; exfalso; omega)
      go_simp
      refine wpAny_take (i := 2) (v := .string (t.extract 0 k)) rfl (by kernel_rfl) (by kernel_rfl) (by kernel_rfl) (fun _ _ _ h => h) (Or.inl ⟨by rfl, ?_⟩) ?_
      · intro w
        go_simp
        all_goals first | done | omega | (intro h; exfalso; omega)
      go_simp
      refine wpAny_take (i := 3) (v := .pointer (some ⟨g, 0, none⟩)) rfl (by kernel_rfl) (by kernel_rfl) (by kernel_rfl) (fun _ _ _ h => h) (Or.inl ⟨by rfl, ?_⟩) ?_
      · intro w
        go_simp
        all_goals first | done | omega | (intro h; exfalso; omega)
      go_simp
      refine wpAny_take (i := 4) (v := .pointer (some ⟨g, 0, none⟩)) rfl (by kernel_rfl) (by kernel_rfl) (by kernel_rfl) (fun _ _ _ h => h) (Or.inl ⟨by rfl, ?_⟩) ?_
      · intro w
        go_simp
        all_goals first | done | omega | (intro h; exfalso; omega)
      go_simp
      refine wpAny_take (i := 8) (v := .string t) rfl (by kernel_rfl) (by kernel_rfl) (by kernel_rfl) (fun _ _ _ h => h) (Or.inl ⟨by rfl, ?_⟩) ?_
      · intro w
        go_simp
        all_goals first | done | omega | (intro h; exfalso; omega)
      go_simp
      refine wpAny_take (i := 9) (v := .int .i64 t.size) rfl (by kernel_rfl) (by kernel_rfl) (by kernel_rfl) (fun _ _ _ h => h) (Or.inl ⟨by rfl, ?_⟩) ?_
      · intro w
        go_simp
        all_goals first | done | omega | (intro h; exfalso; omega)
      go_simp
      refine wpAny_take (i := 10) (v := .string ByteArray.empty) rfl (by kernel_rfl) (by kernel_rfl) (by kernel_rfl) (fun _ _ _ h => h) (Or.inl ⟨by rfl, ?_⟩) ?_
      · intro w
        go_simp
        all_goals first | done | omega | (intro h; exfalso; omega)
      go_simp
      refine wpAny_ready (rs := [5]) (by kernel_rfl) (by simp) ?_
      refine AllReady.cons rfl (fun K hK => ?_) AllReady.nil
      go_simp
      go_wp2_with fail
      refine (srcN g o c cp (a + 1 + 1) z 3 w2.drew ⟨Hs2.out.blk⟩ ((HC.out.grown Hg2.out (Nat.le_refl _)).drewC) (by omega) hl (by omega) (by omega)).mono ?_
      rintro e3 w3 ⟨v3, rfl, hv3, hs3, hg3⟩
      have Hs3 := mkH hs3
      have Hg3 := mkH (gr_trans (gr_trans Hg2.out (gr_below ((Below.refl w2.heap.size w2).drew))) hg3)
      clear hs3 hg3
      show K _ _
      refine hK _ _ ?_
      clear hK K
      go_simp
      refine wpAny_ready (rs := [6]) (by kernel_rfl) (by simp) ?_
      refine AllReady.cons rfl (fun K hK => ?_) AllReady.nil
      go_simp
      go_wp2_with fail
      refine (srcBytes g o c cp (a + 1 + 1 + 1) z v3 _ Hs3.out (HC.out.grown Hg3.out (Nat.le_refl _)) (by omega) hl (by omega)).mono ?_
      rintro e4 w4 ⟨u, a4, rfl, hu, ha4, hs4, hg4⟩
      have Hs4 := mkH hs4
      have Hg4 := mkH (gr_trans Hg3.out hg4)
      clear hs4 hg4
      show K _ _
      refine hK _ _ ?_
      clear hK K
      go_simp
      refine wpAny_take (i := 7) (v := .string (t.extract 0 k ++ u)) rfl (by kernel_rfl) (by kernel_rfl) (by kernel_rfl) (fun _ _ _ h => h) (Or.inl ⟨by rfl, ?_⟩) ?_
      · intro w
        go_simp
        all_goals first | done | omega | (intro h; exfalso; omega)
      go_simp
      refine wpAny_take (i := 11) (v := .string (t.extract 0 k ++ u)) rfl (by kernel_rfl) (by kernel_rfl) (by kernel_rfl) (fun _ _ _ h => h) (Or.inl ⟨by rfl, ?_⟩) ?_
      · intro w
        go_simp
        all_goals first | done | omega | (intro h; exfalso; omega)
      go_simp
      refine wpAny_take (i := 12) (v := .string (t.extract 0 k ++ u)) rfl (by kernel_rfl) (by kernel_rfl) (by kernel_rfl) (fun _ _ _ h => h) (Or.inl ⟨by rfl, ?_⟩) ?_
      · intro w
        go_simp
        all_goals first | done | omega | (intro h; exfalso; omega)
      go_simp
      refine wpAny_done (by kernel_rfl) ?_ _
      have hsz : (t.extract 0 k ++ u).size ≤ t.size + 9 := by
        simp only [ByteArray.size_append, ByteArray.size_extract]
        omega
      go_wp2
      go_ret
      exact ⟨_, a4, rfl, hsz, by omega, Hs4.out, Hg4.out⟩
    · obtain ⟨e, he2⟩ : ∃ e, e = k + v2 := ⟨_, rfl⟩
      have heI : (k : Int) + (v2 : Int) = (e : Int) := by omega
      have hle : e ≤ t.size := by omega
      have hx2 : (t.extract e t.size).size = t.size - e := by rw [ByteArray.size_extract]; omega
      clear he2
      go_wp2
      refine wp_region_any (by kernel_rfl) ?_
      refine wpAny_take (i := 0) (v := .string t) rfl (by kernel_rfl) (by kernel_rfl) (by kernel_rfl) (fun _ _ _ h => h) (Or.inl ⟨by rfl, ?_⟩) ?_
      · intro w
        go_simp
        all_goals first | done | omega | (intro h; exfalso; omega)
      go_simp
      refine wpAny_take (i := 1) (v := .int .i64 k) rfl (by kernel_rfl) (by kernel_rfl) (by kernel_rfl) (fun _ _ _ h => h) (Or.inl ⟨by rfl, ?_⟩) ?_
      · intro w
        go_simp
        all_goals first | done | omega | (intro h; exfalso; omega)
      go_simp
      refine wpAny_take (i := 2) (v := .string (t.extract 0 k)) rfl (by kernel_rfl) (by kernel_rfl) (by kernel_rfl) (fun _ _ _ h => h) (Or.inl ⟨by rfl, ?_⟩) ?_
      · intro w
        go_simp
        all_goals first | done | omega | (intro h; exfalso; omega)
      go_simp
      refine wpAny_take (i := 3) (v := .pointer (some ⟨g, 0, none⟩)) rfl (by kernel_rfl) (by kernel_rfl) (by kernel_rfl) (fun _ _ _ h => h) (Or.inl ⟨by rfl, ?_⟩) ?_
      · intro w
        go_simp
        all_goals first | done | omega | (intro h; exfalso; omega)
      go_simp
      refine wpAny_take (i := 4) (v := .pointer (some ⟨g, 0, none⟩)) rfl (by kernel_rfl) (by kernel_rfl) (by kernel_rfl) (fun _ _ _ h => h) (Or.inl ⟨by rfl, ?_⟩) ?_
      · intro w
        go_simp
        all_goals first | done | omega | (intro h; exfalso; omega)
      go_simp
      refine wpAny_take (i := 8) (v := .string t) rfl (by kernel_rfl) (by kernel_rfl) (by kernel_rfl) (fun _ _ _ h => h) (Or.inl ⟨by rfl, ?_⟩) ?_
      · intro w
        go_simp
        all_goals first | done | omega | (intro h; exfalso; omega)
      go_simp
      refine wpAny_take (i := 9) (v := .int .i64 e) rfl (by kernel_rfl) (by kernel_rfl) (by kernel_rfl) (fun _ _ _ h => h) (Or.inl ⟨by rfl, ?_⟩) ?_
      · intro w
        go_simp
        all_goals first | done | omega | (intro h; exfalso; omega)
      go_simp
      refine wpAny_take (i := 10) (v := .string (t.extract e t.size)) rfl (by kernel_rfl) (by kernel_rfl) (by kernel_rfl) (fun _ _ _ h => h) (Or.inl ⟨by rfl, ?_⟩) ?_
      · intro w
        go_simp
        all_goals first | done | omega | (intro h; exfalso; omega)
      go_simp
      refine wpAny_ready (rs := [5]) (by kernel_rfl) (by simp) ?_
      refine AllReady.cons rfl (fun K hK => ?_) AllReady.nil
      go_simp
      go_wp2_with fail
      refine (srcN g o c cp (a + 1 + 1) z 3 w2.drew ⟨Hs2.out.blk⟩ ((HC.out.grown Hg2.out (Nat.le_refl _)).drewC) (by omega) hl (by omega) (by omega)).mono ?_
      rintro e3 w3 ⟨v3, rfl, hv3, hs3, hg3⟩
      have Hs3 := mkH hs3
      have Hg3 := mkH (gr_trans (gr_trans Hg2.out (gr_below ((Below.refl w2.heap.size w2).drew))) hg3)
      clear hs3 hg3
      show K _ _
      refine hK _ _ ?_
      clear hK K
      go_simp
      refine wpAny_ready (rs := [6]) (by kernel_rfl) (by simp) ?_
      refine AllReady.cons rfl (fun K hK => ?_) AllReady.nil
      go_simp
      go_wp2_with fail
      refine (srcBytes g o c cp (a + 1 + 1 + 1) z v3 _ Hs3.out (HC.out.grown Hg3.out (Nat.le_refl _)) (by omega) hl (by omega)).mono ?_
      rintro e4 w4 ⟨u, a4, rfl, hu, ha4, hs4, hg4⟩
      have Hs4 := mkH hs4
      have Hg4 := mkH (gr_trans Hg3.out hg4)
      clear hs4 hg4
      show K _ _
      refine hK _ _ ?_
      clear hK K
      go_simp
      refine wpAny_take (i := 7) (v := .string (t.extract 0 k ++ u)) rfl (by kernel_rfl) (by kernel_rfl) (by kernel_rfl) (fun _ _ _ h => h) (Or.inl ⟨by rfl, ?_⟩) ?_
      · intro w
        go_simp
        all_goals first | done | omega | (intro h; exfalso; omega)
      go_simp
      refine wpAny_take (i := 11) (v := .string (t.extract 0 k ++ u ++ t.extract e t.size)) rfl (by kernel_rfl) (by kernel_rfl) (by kernel_rfl) (fun _ _ _ h => h) (Or.inl ⟨by rfl, ?_⟩) ?_
      · intro w
        go_simp
        all_goals first | done | omega | (intro h; exfalso; omega)
      go_simp
      refine wpAny_take (i := 12) (v := .string (t.extract 0 k ++ u ++ t.extract e t.size)) rfl (by kernel_rfl) (by kernel_rfl) (by kernel_rfl) (fun _ _ _ h => h) (Or.inl ⟨by rfl, ?_⟩) ?_
      · intro w
        go_simp
        all_goals first | done | omega | (intro h; exfalso; omega)
      go_simp
      refine wpAny_done (by kernel_rfl) ?_ _
      have hsz : (t.extract 0 k ++ u ++ t.extract e t.size).size ≤ t.size + 9 := by
        simp only [ByteArray.size_append, ByteArray.size_extract]
        omega
      go_wp2
      go_ret
      exact ⟨_, a4, rfl, hsz, by omega, Hs4.out, Hg4.out⟩
end Go.Proofs.YtbppdfjigcelkaaGreatDoor
namespace Go.Proofs.YtbppdfjigcelkaaGreatDoor
open Go.RowKit Go.Lib Go.Maps
set_option maxRecDepth 20000 in
theorem run_append_noneN {w : World} (base : Nat) (t ty e : TypeId) (i : TypeInfo) (size c : Nat) (ht : Tryz.prog.underlying t = some (.slice e)) (hi : Tryz.prog.info? e = some i)
    (v : Value) (n : Nat) (xs : List Value) (hown : w.ownsRow base e size v n xs) :
    (Builtin.append_ #[t, t] ty #[v, .slice none 0 c]).run Tryz.prog w = .ok v w := by
  rcases hown.2 with ⟨rfl, rfl⟩ | ⟨g, cap, cur, rfl, _, _, hnc, _⟩
  · simp [Builtin.append_, run_underlying ht, sizeOf, typeInfo, hi, Builtin.lenOf, Builtin.firstCells]
  · simp [Builtin.append_, run_underlying ht, sizeOf, typeInfo, hi, Builtin.lenOf, Builtin.firstCells, hnc, storeCells]
set_option maxRecDepth 20000 in
theorem wp_appNs {w : World} {ops : Array Oper} {rest : List Oper} {o : Oper} {a : Act} {Q : Exit → Act → World → Prop} (hgd : o.guard = none) (s x : Operand)
    (ho : o.op = .call { callee := .builtin .append, args := #[s, x], argTypes := #[23, 23] })
    (B : Nat) (v : Value) (C : List Int) (hs : a.eval s = v) (hown : OwnN B v C w) (o' : Option Addr) (P : List Int) (c lo : Nat) (hx : a.eval x = .slice o' P.length c) (hT : InL lo w.heap.size w o' P)
    (hlen : C.length + P.length ≤ 3000000) (hB : B ≤ w.heap.size)
    (h : ∀ v' w', OwnN B v' (C ++ P) w' → w.grownBy w' v.ownBlock → (v'.ownBlock = v.ownBlock ∨ v'.ownBlock = some w.heap.size) → wpList Tryz.prog ops Q rest (a.put o.dst v') w') : wpList Tryz.prog ops Q (o :: rest) a w := by
  refine wpList_plain hgd fun K hK => ?_
  obtain ⟨i0, hi0, hz0, hz1, hz2⟩ := info_parts Tryz.info2
  have key : ∃ v' w', (Builtin.append_ #[23, 23] o.type #[v, .slice o' P.length c]).run Tryz.prog w = .ok v' w' ∧ OwnN B v' (C ++ P) w' ∧ w.grownBy w' v.ownBlock ∧ (v'.ownBlock = v.ownBlock ∨ v'.ownBlock = some w.heap.size) := by
    cases o' with
    | none =>
      have hP : P = [] := by
        cases P with
        | nil => rfl
        | cons y t => obtain ⟨a, h1, -⟩ := hT 0 (by simp); cases h1
      subst hP
      refine ⟨v, w, run_append_noneN B _ _ 2 i0 1 c Tryz.underlying23 hi0 v C.length (numCells C) hown, ?_, ⟨rfl, rfl, rfl, Nat.le_refl _, fun _ _ _ => rfl⟩, .inl rfl⟩
      rw [List.append_nil]
      exact hown
    | some ad =>
      unfold OwnN at hown
      obtain ⟨v', w', hr, h2, h3, h4, h5⟩ := run_append_own_at (P := Tryz.prog) w B 23 o.type 2 i0 (.int .i64 0) 1 8 Tryz.underlying23 hi0 hz0 hz1 hz2 rfl (by decide) v C.length (numCells C) hown ad P.length c (numCells P) (by simp [numCells]) (by
        intro j y hj
        have hj' : j < P.length := by
          by_cases h : j < P.length
          · exact h
          · rw [List.getElem?_eq_none (by simp [numCells]; omega)] at hj
            cases hj
        obtain ⟨a, h1, -, -, h2⟩ := hT j hj'
        cases h1
        rw [h2]
        simp only [numCells, List.getElem?_map, List.getElem?_eq_getElem hj', Option.map_some, Option.some.injEq] at hj
        rw [hj]) (by
        intro y hy
        simp only [numCells, List.mem_map] at hy
        obtain ⟨z, -, rfl⟩ := hy
        rfl) (by unfold maxLen; omega) (by omega) hB
      refine ⟨v', w', hr, ?_, h3, h5⟩
      unfold OwnN numCells
      rw [List.map_append, List.length_append]
      exact h2
  obtain ⟨v', w', hr, h2, h3, h5⟩ := key
  unfold Oper.wp execOp
  simp only [ho, resolve, invoke, builtin, Sem.run_bind, Sem.run_pure, Result.andThen_ok, List.map_toArray, List.map_cons, List.map_nil, hs, hx, hr]
  exact hK _ _ (h v' w' h2 h3 h5)
end Go.Proofs.YtbppdfjigcelkaaGreatDoor
namespace Go.Proofs.YtbppdfjigcelkaaGreatDoor
open Go.Lib
namespace Pl
/-- A byte that may stand in a phrase. -/
def tb (c : UInt8) : Bool := decide (32 ≤ c.toNat) && !(c == 127)
def signs : List UInt8 := [33, 35, 36, 37, 38, 39, 42, 43, 45, 47, 61, 63, 94, 95, 123, 124, 125, 126, 96]
def signs0 : List UInt8 := [33, 35, 36, 37, 38, 39, 42, 43, 45, 47, 61, 63, 94, 95, 123, 124, 125, 126]
def alnum (c : UInt8) : Bool := decide (65 ≤ c.toNat ∧ c.toNat ≤ 90) || (decide (97 ≤ c.toNat ∧ c.toNat ≤ 122) || (decide (48 ≤ c.toNat ∧ c.toNat ≤ 57) || decide (128 ≤ c.toNat)))
/-- A byte of an atom. -/
def atom (c : UInt8) : Bool := alnum c || decide (0 ≤ indexByte signs c)
def atom' (c : UInt8) : Bool := alnum c || (c == 96 || (decide (32 < c.toNat) && (decide (c.toNat < 127) && decide (0 ≤ indexByte signs0 c))))
set_option maxRecDepth 20000 in
theorem atom_all : ∀ n, n < 256 → atom (UInt8.ofNat n) = atom' (UInt8.ofNat n) := by decide +kernel
set_option maxRecDepth 20000 in
theorem atom_eq (c : UInt8) : atom' c = atom c := by
  have := atom_all c.toNat (UInt8.toNat_lt c)
  rw [UInt8.ofNat_toNat] at this
  exact this.symm
set_option maxRecDepth 20000 in
theorem atom_blank : atom 32 = false := by decide +kernel
set_option maxRecDepth 20000 in
theorem atom_point : atom 46 = false := by decide +kernel

/-- Are these atoms with one byte d between each two? The flag: an atom has begun. -/
def scan (d : UInt8) : Bool → List UInt8 → Bool
  | was, [] => was
  | was, c :: r => if atom c then scan d true r else if c == d && was then scan d false r else false
/-- Cut at each d. -/
def sp (d : UInt8) : List UInt8 → List (List UInt8)
  | [] => [[]]
  | c :: r => if c = d then [] :: sp d r else match sp d r with | h :: t => (c :: h) :: t | [] => [[c]]
def okA (p : List UInt8) : Bool := !p.isEmpty && p.all atom
set_option maxRecDepth 20000 in
theorem sp_ne (d : UInt8) (l : List UInt8) : ∃ h t, sp d l = h :: t := by
  cases l with
  | nil => exact ⟨[], [], rfl⟩
  | cons c r =>
    unfold sp
    split
    · exact ⟨_, _, rfl⟩
    · cases sp d r with
      | nil => exact ⟨_, _, rfl⟩
      | cons h t => exact ⟨_, _, rfl⟩
set_option maxRecDepth 20000 in
theorem scan_sp (d : UInt8) (hd : atom d = false) : ∀ (l h : List UInt8) (t : List (List UInt8)), sp d l = h :: t → scan d true l = (h.all atom && t.all okA) ∧ scan d false l = (okA h && t.all okA)
  | [], h, t, e => by
    simp only [sp, List.cons.injEq] at e
    obtain ⟨rfl, rfl⟩ := e
    exact ⟨rfl, rfl⟩
  | c :: r, h, t, e => by
    obtain ⟨h', t', e'⟩ := sp_ne d r
    obtain ⟨i1, i2⟩ := scan_sp d hd r h' t' e'
    by_cases hc : c = d
    · subst hc
      rw [sp, if_pos rfl, List.cons.injEq] at e
      obtain ⟨rfl, rfl⟩ := e
      constructor
      · rw [scan, if_neg (by rw [hd]; simp), if_pos (by simp), i2, e']
        rfl
      · rw [scan, if_neg (by rw [hd]; simp), if_neg (by simp)]
        rfl
    · rw [sp, if_neg hc, e'] at e
      simp only [List.cons.injEq] at e
      obtain ⟨rfl, rfl⟩ := e
      by_cases ha : atom c = true
      · constructor
        · rw [scan, if_pos ha, i1, List.all_cons, ha, Bool.true_and]
        · rw [scan, if_pos ha, i1, okA, List.all_cons, ha, Bool.true_and]
          rfl
      · rw [Bool.not_eq_true] at ha
        have hn : (c == d) = false := by simpa using hc
        constructor
        · rw [scan, if_neg (by rw [ha]; simp), hn, List.all_cons, ha]
          rfl
        · rw [scan, if_neg (by rw [ha]; simp), hn, okA, List.all_cons, ha]
          simp
set_option maxRecDepth 20000 in
theorem scan_all (d : UInt8) (hd : atom d = false) (l : List UInt8) : (sp d l).all okA = scan d false l := by
  obtain ⟨h, t, e⟩ := sp_ne d l
  rw [(scan_sp d hd l h t e).2, e, List.all_cons]
set_option maxRecDepth 20000 in
/-- The library's cut is ours. -/
theorem split_sp (d : UInt8) : ∀ l : List UInt8, splitK [d] 0 (count l [d]) l = sp d l
  | [] => by rw [count_miss (by simp [index])]; rfl
  | c :: r => by
    have ih := split_sp d r
    by_cases hc : c = d
    · subst hc
      have hix : index (c :: r) [c] = 0 := by rw [index]; simp [List.isPrefixOf]
      rw [count_cons_eq, Nat.add_comm, splitK, hix, if_neg (by decide), sp, if_pos rfl, ← ih]
      rfl
    · have hp : ([d] : List UInt8).isPrefixOf (c :: r) = false := by simp [List.isPrefixOf, Ne.symm hc]
      have hix : index (c :: r) [d] = if index r [d] == -1 then -1 else index r [d] + 1 := by rw [index, hp]; simp
      rw [count_cons_ne c d r hc, sp, if_neg hc, ← ih]
      by_cases hm : index r [d] = -1
      · rw [count_miss hm]
        rfl
      · have hge := index_ge r [d]
        obtain ⟨j, hj⟩ : ∃ j : Nat, index r [d] = j := ⟨(index r [d]).toNat, by omega⟩
        have hne : (index r [d] == -1) = false := by rw [hj]; simp
        rw [hne] at hix
        simp only [Bool.false_eq_true, if_false] at hix
        have hne2 : (index (c :: r) [d] == -1) = false := by rw [hix, hj]; simp; omega
        obtain ⟨k, hk⟩ : ∃ k, count r [d] = k + 1 := ⟨count (r.drop (j + 1)) [d], by rw [count_hit (by simp) hj]; simp; omega⟩
        rw [hk, splitK, splitK, hne, hne2, hix, hj]
        have e1 : ((j : Int) + 1).toNat = j + 1 := by omega
        simp only [Bool.false_eq_true, if_false, e1, Int.toNat_natCast, Nat.add_zero, List.take_succ_cons, List.length_cons, List.length_nil]
        rfl
/-- Quoted. -/
def qs : List UInt8 → List UInt8
  | [] => []
  | c :: r => if c == 34 || c == 92 then 92 :: c :: qs r else c :: qs r
set_option maxRecDepth 20000 in
theorem qs_esc (l p x : List UInt8) (k : Nat) (hk : k < l.length) (h : (l[k] == 34 || l[k] == 92) = true) (hp : p ++ qs (l.drop k) = x) : (p ++ [92] ++ [l[k]]) ++ qs (l.drop (k + 1)) = x := by
  rw [drop_cons l k hk, qs, if_pos h] at hp
  simpa using hp
set_option maxRecDepth 20000 in
theorem qs_plain (l p x : List UInt8) (k : Nat) (hk : k < l.length) (h : (l[k] == 34 || l[k] == 92) = false) (hp : p ++ qs (l.drop k) = x) : (p ++ [l[k]]) ++ qs (l.drop (k + 1)) = x := by
  rw [drop_cons l k hk, qs, if_neg (by rw [h]; simp)] at hp
  simpa using hp
set_option maxRecDepth 20000 in
theorem qs_done (l p x : List UInt8) (k : Nat) (hk : l.length ≤ k) (hp : p ++ qs (l.drop k) = x) : p = x := by
  rw [List.drop_eq_nil_of_le hk] at hp
  simpa [qs] using hp
def phrase (l : List UInt8) : List UInt8 := if l.all tb then (if scan 32 false l then l else 34 :: qs l ++ [34]) else []
end Pl
end Go.Proofs.YtbppdfjigcelkaaGreatDoor
