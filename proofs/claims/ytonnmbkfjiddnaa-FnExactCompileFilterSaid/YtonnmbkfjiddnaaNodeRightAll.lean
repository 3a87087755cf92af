
/- The program's test of a node's fields, for every kind. -/
import Derived.Test.YtonnmbkfjiddnaaCompSpec3
import Derived.Test.YtonnmbkfjiddnaaNodeRight
namespace Go.Proofs.Ytonnmbkfjiddnaa
open Go.RowKit Go.Lib Go.Maps
namespace Fn
theorem five (p q r s t u v : Bool) : (p && (q && (r && (s && (t && (u && v)))))) = all5 (p && q) (r && s) t u v := by
  unfold all5
  cases p <;> cases q <;> cases r <;> rfl
theorem p0 (x : Int) : (decide (0 ≤ x) && decide (x ≤ 0)) = (x == 0) := by
  rw [Bool.eq_iff_iff]
  simp
  omega
theorem r0 (l : List ByteArray) : rightT l 0 = ((l.length : Int) == 0) := by
  unfold rightT
  cases l with
  | nil => rfl
  | cons a r =>
    have e1 : decide (((a :: r).length : Int) ≤ ((0 : Nat) : Int)) = false := by simp
    have e2 : (((a :: r).length : Int) == 0) = false := by first | (simp; done) | (simp; omega)
    rw [e1, e2, Bool.false_and, Bool.and_false]
theorem any_all (l : List ByteArray) : (!(l.any fun t => !decide (t.size ≤ 1000))) = l.all fun t => decide (t.size ≤ 1000) := by
  induction l with
  | nil => rfl
  | cons a r ih => simp only [List.any_cons, List.all_cons, Bool.not_or, Bool.not_not, ih]
theorem r100 (l : List ByteArray) : rightT l 100 = textsOk l := by
  unfold rightT textsOk
  rw [any_all]
  congr 1
  · rw [Bool.eq_iff_iff]; simp; omega
  · congr 1
    rw [Bool.eq_iff_iff]; simp; omega
theorem t0_size (t : ByteArray) : decide ((t.size : Int) ≤ 0) = t.toList.isEmpty := by
  have he : t.toList.isEmpty = decide (t.size = 0) := by
    rw [ByteArray.toList_eq]
    cases h : t.data.toList with
    | nil =>
      have : t.size = 0 := by
        have := congrArg List.length h
        simpa using this
      simp [this]
    | cons a r =>
      have : t.size ≠ 0 := by
        have := congrArg List.length h
        intro h0
        rw [Array.length_toList] at this
        rw [show t.data.size = t.size from rfl, h0] at this
        cases this
      simp [this]
  rw [he, Bool.eq_iff_iff]
  simp
theorem r1 (l : List ByteArray) : (!(l.any fun t => !nameOk t) && rightT l 1) = (match l with | [t] => nameOk t | _ => false) := by
  match l with
  | [] => rfl
  | [t] =>
    show (!((!nameOk t) || false) && rightT [t] 1) = nameOk t
    unfold rightT
    rw [any_all]
    by_cases h : nameOk t = true
    · rw [h]
      have : t.size ≤ 20 := by
        unfold nameOk at h
        simp only [Bool.and_eq_true, decide_eq_true_eq] at h
        exact h.2.1
      have e : ([t].all fun t => decide (t.size ≤ 1000)) = true := by simp; omega
      rw [e]
      rfl
    · have h' : nameOk t = false := by simpa using h
      rw [h']
      rfl
  | a :: b :: r =>
    have e : decide (((a :: b :: r).length : Int) ≤ ((1 : Nat) : Int)) = false := by simp; omega
    unfold rightT
    rw [e, Bool.false_and, Bool.and_false, Bool.and_false]
end Fn
theorem implRight (n : Nd) (a1 a2 a3 : Option Addr) (c1 c2 c3 nk : Nat) (w : World) (h1 : Tx w.heap.size w a1 n.names) (h4 : Tx w.heap.size w a2 n.keys) (hf : n.fits 1048576) :
    Calls Try.prog 52 #[.agg #[.int .i64 n.kind, .int .i64 n.num, .int .i64 n.mat, .string n.text, .slice a1 n.names.length c1, .slice a2 n.keys.length c2, .slice a3 nk c3]] w fun e w' => e = .returned (.bool (Fn.right n)) ∧ Below w.heap.size w w' := by
  obtain ⟨-, h2, h3, h5, h6, -⟩ := hf
  obtain ⟨kd, num, mat, text, names, keys, kids⟩ := n
  dsimp only at h1 h2 h3 h4 h5 h6 ⊢
  by_cases x3 : kd = 3
  · subst x3
    refine (implR3 num mat text names keys a1 a2 a3 c1 c2 c3 nk w h1 h2 h3 h4 h5 h6).mono ?_
    rintro e w' ⟨rfl, hb⟩
    rw [Fn.five, Fn.p0, Fn.r0, Fn.r0, Fn.t0_size]
    exact ⟨rfl, hb⟩
  by_cases x7 : kd = 7
  · subst x7
    refine (implR7 num mat text names keys a1 a2 a3 c1 c2 c3 nk w h1 h2 h3 h4 h5 h6).mono ?_
    rintro e w' ⟨rfl, hb⟩
    rw [Fn.five, Fn.p0, Fn.p0, Fn.r0, Fn.r0]
    exact ⟨rfl, hb⟩
  by_cases x8 : kd = 8
  · subst x8
    refine (implR8 num mat text names keys a1 a2 a3 c1 c2 c3 nk w h1 h2 h3 h4 h5 h6).mono ?_
    rintro e w' ⟨rfl, hb⟩
    rw [Fn.five, Fn.p0, Fn.p0, Fn.r0, Fn.r0]
    exact ⟨rfl, hb⟩
  by_cases x9 : kd = 9
  · subst x9
    refine (implR9 num mat text names keys a1 a2 a3 c1 c2 c3 nk w h1 h2 h3 h4 h5 h6).mono ?_
    rintro e w' ⟨rfl, hb⟩
    rw [Fn.five, Fn.p0, Fn.p0, Fn.r0, Fn.r0]
    exact ⟨rfl, hb⟩
  by_cases x10 : kd = 10
  · subst x10
    refine (implR10 num mat text names keys a1 a2 a3 c1 c2 c3 nk w h1 h2 h3 h4 h5 h6).mono ?_
    rintro e w' ⟨rfl, hb⟩
    rw [Fn.five, Fn.p0, Fn.p0, Fn.r0, Fn.r0]
    exact ⟨rfl, hb⟩
  by_cases x11 : kd = 11
  · subst x11
    refine (implR11 num mat text names keys a1 a2 a3 c1 c2 c3 nk w h1 h2 h3 h4 h5 h6).mono ?_
    rintro e w' ⟨rfl, hb⟩
    rw [← Bool.and_assoc (!(names.any fun t => !Fn.nameOk t)), Fn.five, Fn.p0, Fn.p0, Fn.r1, Fn.r0]
    exact ⟨rfl, hb⟩
  by_cases x28 : kd = 28
  · subst x28
    refine (implR28 num mat text names keys a1 a2 a3 c1 c2 c3 nk w h1 h2 h3 h4 h5 h6).mono ?_
    rintro e w' ⟨rfl, hb⟩
    rw [Fn.five, Fn.p0, Fn.p0, Fn.r100, Fn.r0, Fn.t0_size]
    exact ⟨rfl, hb⟩
  by_cases x29 : kd = 29
  · subst x29
    refine (implR29 num mat text names keys a1 a2 a3 c1 c2 c3 nk w h1 h2 h3 h4 h5 h6).mono ?_
    rintro e w' ⟨rfl, hb⟩
    rw [Fn.five, Fn.p0, Fn.r0, Fn.r0, Fn.t0_size]
    exact ⟨rfl, hb⟩
  by_cases x30 : kd = 30
  · subst x30
    refine (implR30 num mat text names keys a1 a2 a3 c1 c2 c3 nk w h1 h2 h3 h4 h5 h6).mono ?_
    rintro e w' ⟨rfl, hb⟩
    rw [Fn.five, Fn.p0, Fn.r0, Fn.r0, Fn.t0_size]
    exact ⟨rfl, hb⟩
  by_cases x25 : kd = 25
  · subst x25
    refine (implR25 num mat text names keys a1 a2 a3 c1 c2 c3 nk w h1 h2 h3 h4 h5 h6).mono ?_
    rintro e w' ⟨rfl, hb⟩
    rw [Fn.five, Fn.p0, Fn.r100, Fn.r100, Fn.t0_size]
    exact ⟨rfl, hb⟩
  by_cases x26 : kd = 26
  · subst x26
    refine (implR26 num mat text names keys a1 a2 a3 c1 c2 c3 nk w h1 h2 h3 h4 h5 h6).mono ?_
    rintro e w' ⟨rfl, hb⟩
    rw [Fn.five, Fn.p0, Fn.r100, Fn.r100, Fn.t0_size]
    exact ⟨rfl, hb⟩
  by_cases x27 : kd = 27
  · subst x27
    refine (implR27 num mat text names keys a1 a2 a3 c1 c2 c3 nk w h1 h2 h3 h4 h5 h6).mono ?_
    rintro e w' ⟨rfl, hb⟩
    rw [Fn.five, Fn.p0, Fn.r100, Fn.r100, Fn.t0_size]
    exact ⟨rfl, hb⟩
  by_cases x31 : kd = 31
  · subst x31
    refine (implR31 num mat text names keys a1 a2 a3 c1 c2 c3 nk w h1 h2 h3 h4 h5 h6).mono ?_
    rintro e w' ⟨rfl, hb⟩
    rw [Fn.five, Fn.p0, Fn.r100, Fn.r100, Fn.t0_size]
    exact ⟨rfl, hb⟩
  have b : ∀ c : Int, kd ≠ c → (kd == c) = false := fun c h => by simpa using h
  refine (implRno kd num mat text names keys a1 a2 a3 c1 c2 c3 nk w h1 h2 h3 h4 h5 h6 (b _ x3) (b _ x7) (b _ x8) (b _ x9) (b _ x10) (b _ x11) (b _ x28) (b _ x29) (b _ x30) (b _ x25) (b _ x26) (b _ x27) (b _ x31)).mono ?_
  rintro e w' ⟨rfl, hb⟩
  rw [Fn.five, Fn.p0, Fn.p0, Fn.r0, Fn.r0, Fn.t0_size]
  refine ⟨?_, hb⟩
  have : Fn.right ⟨kd, num, mat, text, names, keys, kids⟩ = Fn.bare ⟨kd, num, mat, text, names, keys, kids⟩ := by
    unfold Fn.right
    split
    · rename_i hk
      rw [Fn.known_iff] at hk
      dsimp only at hk
      unfold Fn.fieldsOk
      dsimp only
      rw [if_neg x3, if_neg (by omega), if_neg x11, if_neg x28, if_neg (by omega), if_neg (by omega), if_pos (by omega)]
      rfl
    · rfl
  rw [this]
  rfl
end Go.Proofs.Ytonnmbkfjiddnaa
