
/- The tokens of a text, by what is left of it. -/

/- The walks of the two WriteBox. -/

/- The tokens of what a box is written as. -/
import Derived.Test.YtadoifnfgoonaaaGreatDoorAdReadD
import Derived.Test.YtadoifnfgoonaaaGreatDoorAdReadA
namespace Go.Proofs.YtadoifnfgoonaaaGreatDoor
open Go.RowKit Go.Lib
set_option maxRecDepth 20000 in
theorem getD_midA (a x c : List UInt8) (j : Nat) (h1 : a.length ≤ j) (h2 : j < a.length + x.length) : Pl.b (a ++ (x ++ c)) j = x[j - a.length]'(by omega) := by
  unfold Pl.b
  rw [List.getD_eq_getElem?_getD, List.getElem?_append_right h1, List.getElem?_append_left (by omega), List.getElem?_eq_getElem (by omega), Option.getD_some]
set_option maxRecDepth 20000 in
theorem stop_midA (K : UInt8 → Bool) (a x c : List UInt8) (hx : x.all K = true) (hc : ∀ d r, c = d :: r → K d = false) : Pl.stop K (a ++ (x ++ c)) a.length = a.length + x.length := by
  refine Pl.stop_eq K _ _ _ (by omega) (by simp) ?_ ?_
  · intro j h1 h2
    rw [getD_midA a x c j h1 h2]
    exact (List.all_eq_true.1 hx) _ (List.getElem_mem _)
  · intro h
    cases c with
    | nil => simp at h
    | cons d r =>
      unfold Pl.b
      rw [List.getD_eq_getElem?_getD, List.getElem?_append_right (by omega), List.getElem?_append_right (by omega), show a.length + x.length - a.length - x.length = 0 by omega, List.getElem?_cons_zero, Option.getD_some]
      exact hc d r rfl
set_option maxRecDepth 20000 in
theorem atom_noblankA : ∀ n : Fin 256, Pl.atom (UInt8.ofNat n.val) = true → Pl.blank (UInt8.ofNat n.val) = false := by decide +kernel
set_option maxRecDepth 20000 in
theorem atom_nbA (c : UInt8) (h : Pl.atom c = true) : Pl.blank c = false := by
  have := atom_noblankA ⟨c.toNat, UInt8.toNat_lt c⟩
  simp only [UInt8.ofNat_toNat] at this
  exact this h
set_option maxRecDepth 20000 in
theorem extract_midA (s : ByteArray) (a x c : List UInt8) (hs : s.data.toList = a ++ (x ++ c)) : s.extract a.length (a.length + x.length) = ⟨x.toArray⟩ := by
  apply ByteArray.ext
  rw [ByteArray.data_extract]
  apply Array.toList_inj.1
  rw [Array.toList_extract, hs]
  simp [List.extract_eq_take_drop]
set_option maxRecDepth 20000 in
theorem at_midA (s : ByteArray) (a : List UInt8) (d : UInt8) (r : List UInt8) (hs : s.data.toList = a ++ d :: r) (h : a.length < s.size) : s[a.length] = d := by
  have : s.data.toList[a.length]? = some d := by rw [hs]; simp
  have h2 : a.length < s.data.toList.length := by simpa using h
  rw [List.getElem?_eq_getElem h2, Option.some_inj] at this
  exact this
/-- What is left of a text has these tokens. -/
inductive Tt : List UInt8 → List (Nat × ByteArray) → Prop
  | nil : Tt [] []
  | blank (r : List UInt8) (K : List (Nat × ByteArray)) (h : Tt r K) : Tt (32 :: r) K
  | spec (c : UInt8) (r : List UInt8) (K : List (Nat × ByteArray)) (hc : spB c = true) (h : Tt r K) : Tt (c :: r) ((5, ⟨#[c]⟩) :: K)
  | atom (c : UInt8) (x r : List UInt8) (K : List (Nat × ByteArray)) (hx : (c :: x).all Pl.atom = true) (hr : ∀ d q, r = d :: q → Pl.atom d = false) (h : Tt r K) : Tt (c :: x ++ r) ((1, ⟨(c :: x).toArray⟩) :: K)
  | quot (L r : List UInt8) (K : List (Nat × ByteArray)) (h : Tt r K) : Tt (34 :: (Pl.qs L ++ 34 :: r)) ((2, ⟨L.toArray⟩) :: K)
  | lit (L r : List UInt8) (K : List (Nat × ByteArray)) (hL : L.all Pl.litB = true) (h : Tt r K) : Tt (91 :: (L ++ 93 :: r)) ((3, ⟨L.toArray⟩) :: K)
set_option maxRecDepth 20000 in
theorem toks_blank {s : ByteArray} {a : Nat} {T : List Tk} (h : Toks s (a + 1) T) (ha : a < s.data.toList.length) (hb : Pl.blank (Pl.b s.data.toList a) = true) : Toks s a T := by
  have e : Pl.stop Pl.blank s.data.toList a = Pl.stop Pl.blank s.data.toList (a + 1) := by
    unfold Pl.stop
    exact (Pl.first_miss _ _ _ ha (by simp [hb])).symm
  cases h with
  | nil _ h =>
    cases h with
    | fin h => exact .nil _ (.fin (e.trans h))
  | cons _ a' t T h h1 h2 h3 =>
    refine .cons _ a' t T ?_ (by omega) h2 h3
    cases h with
    | atom z hz hzs hat => exact .atom z (e.trans hz) hzs hat
    | spec z hz hzs hc => exact .spec z (e.trans hz) hzs hc
    | quot z X G L hz hzs h34 hX hL => exact .quot z X G L (e.trans hz) hzs h34 hX hL
    | lit z X G L hz hzs h91 hX hL => exact .lit z X G L (e.trans hz) hzs h91 hX hL
set_option maxRecDepth 20000 in
theorem size_of {s : ByteArray} {l : List UInt8} (h : s.data.toList = l) : s.size = l.length := by rw [← h]; simp
set_option maxRecDepth 20000 in
theorem tt_toks (s : ByteArray) {r : List UInt8} {K : List (Nat × ByteArray)} (h : Tt r K) : ∀ p, s.data.toList = p ++ r → ∃ T, Toks s p.length T ∧ (T.map fun t => (t.kind, t.text)) = K ∧ ∀ t ∈ T, t.kind ≠ 4 ∧ t.kind ≠ 0 := by
  induction h with
  | nil =>
    intro p hs
    have hl := size_of hs
    refine ⟨[], .nil _ (.fin ?_), rfl, fun t ht => absurd ht List.not_mem_nil⟩
    have := stop_midA Pl.blank p [] [] rfl (fun _ _ h => by cases h)
    rw [hs, hl]
    simp only [List.append_nil, List.length_nil, Nat.add_zero] at this ⊢
    exact this
  | blank r K h ih =>
    intro p hs
    obtain ⟨T, h1, h2, h3⟩ := ih (p ++ [32]) (by rw [hs]; simp)
    rw [List.length_append, List.length_singleton] at h1
    refine ⟨T, toks_blank h1 (by rw [hs]; simp) ?_, h2, h3⟩
    rw [hs]
    unfold Pl.b
    simp
    decide
  | spec c r K hc h ih =>
    intro p hs
    obtain ⟨T, h1, h2, h3⟩ := ih (p ++ [c]) (by rw [hs]; simp)
    rw [List.length_append, List.length_singleton] at h1
    have hl := size_of hs
    simp only [List.length_append, List.length_cons] at hl
    have hz : p.length < s.size := by omega
    have hat := at_midA s p c r hs hz
    have hnb : Pl.blank c = false := by rcases spB_cases c hc with e | e | e | e | e | e | e <;> rw [e] <;> decide
    have hst : Pl.stop Pl.blank s.data.toList p.length = p.length := by
      have := stop_midA Pl.blank p [] (c :: r) rfl (fun d q e => by injection e with e _; rw [← e]; exact hnb)
      rw [hs]
      simpa using this
    have hS := Step.spec (s := s) (a := p.length) p.length hst hz (by rw [hat]; exact hc)
    have hex := extract_midA s p [c] r (by rw [hs]; rfl)
    rw [List.length_singleton] at hex
    rw [hex] at hS
    exact ⟨_ :: T, .cons _ _ _ _ hS (by omega) (by omega) h1, by rw [List.map_cons, h2], fun t ht => by rcases List.mem_cons.1 ht with rfl | ht; exact ⟨(by simp), (by simp)⟩; exact h3 t ht⟩
  | atom c x r K hx hr h ih =>
    intro p hs
    obtain ⟨T, h1, h2, h3⟩ := ih (p ++ (c :: x)) (by rw [hs]; simp)
    rw [List.length_append] at h1
    have hl := size_of hs
    simp only [List.length_append, List.length_cons] at hl
    have hz : p.length < s.size := by omega
    have hat := at_midA s p c (x ++ r) hs hz
    have hca : Pl.atom c = true := by rw [List.all_cons, Bool.and_eq_true] at hx; exact hx.1
    have hst : Pl.stop Pl.blank s.data.toList p.length = p.length := by
      have := stop_midA Pl.blank p [] (c :: x ++ r) rfl (fun d q e => by injection e with e _; rw [← e]; exact atom_nbA c hca)
      rw [hs]
      simpa using this
    have hS := Step.atom (s := s) (a := p.length) p.length hst hz (by rw [hat]; exact hca)
    have hstop : Pl.stop Pl.atom s.data.toList p.length = p.length + (c :: x).length := by rw [hs]; exact stop_midA Pl.atom p (c :: x) r hx hr
    rw [hstop, extract_midA s p (c :: x) r hs] at hS
    exact ⟨_ :: T, .cons _ _ _ _ hS (by simp) (by simp only [List.length_cons]; omega) h1, by rw [List.map_cons, h2], fun t ht => by rcases List.mem_cons.1 ht with rfl | ht; exact ⟨(by simp), (by simp)⟩; exact h3 t ht⟩
  | quot L r K h ih =>
    intro p hs
    obtain ⟨T, h1, h2, h3⟩ := ih (p ++ 34 :: (Pl.qs L ++ [34])) (by rw [hs]; simp)
    have hl := size_of hs
    simp only [List.length_append, List.length_cons] at hl
    have hz : p.length < s.size := by omega
    have hat := at_midA s p 34 _ hs hz
    have hst : Pl.stop Pl.blank s.data.toList p.length = p.length := by
      have := stop_midA Pl.blank p [] (34 :: (Pl.qs L ++ 34 :: r)) rfl (fun d q e => by injection e with e _; rw [← e]; decide)
      rw [hs]
      simpa using this
    have hd : s.data.toList.drop (p.length + 1) = Pl.qs L ++ 34 :: r := by rw [hs]; simp
    have hS := Step.quot (s := s) (a := p.length) p.length (Pl.qs L) r L hst hz hat (Sd.qs L) hd
    have hpl : (p ++ 34 :: (Pl.qs L ++ [34])).length = s.size - r.length := by rw [hl]; simp; omega
    rw [hpl] at h1
    exact ⟨_ :: T, .cons _ _ _ _ hS (by omega) (by omega) h1, by rw [List.map_cons, h2], fun t ht => by rcases List.mem_cons.1 ht with rfl | ht; exact ⟨(by simp), (by simp)⟩; exact h3 t ht⟩
  | lit L r K hL h ih =>
    intro p hs
    obtain ⟨T, h1, h2, h3⟩ := ih (p ++ 91 :: (L ++ [93])) (by rw [hs]; simp)
    have hl := size_of hs
    simp only [List.length_append, List.length_cons] at hl
    have hz : p.length < s.size := by omega
    have hat := at_midA s p 91 _ hs hz
    have hst : Pl.stop Pl.blank s.data.toList p.length = p.length := by
      have := stop_midA Pl.blank p [] (91 :: (L ++ 93 :: r)) rfl (fun d q e => by injection e with e _; rw [← e]; decide)
      rw [hs]
      simpa using this
    have hd : s.data.toList.drop (p.length + 1) = L ++ 93 :: r := by rw [hs]; simp
    have hS := Step.lit (s := s) (a := p.length) p.length L r L hst hz hat (Sd.lit L hL) hd
    have hpl : (p ++ 91 :: (L ++ [93])).length = s.size - r.length := by rw [hl]; simp; omega
    rw [hpl] at h1
    exact ⟨_ :: T, .cons _ _ _ _ hS (by omega) (by omega) h1, by rw [List.map_cons, h2], fun t ht => by rcases List.mem_cons.1 ht with rfl | ht; exact ⟨(by simp), (by simp)⟩; exact h3 t ht⟩
set_option maxRecDepth 20000 in
theorem toks_len {s : ByteArray} {a : Nat} {T : List Tk} (h : Toks s a T) : T.length + a ≤ max s.size a := by
  induction h with
  | nil a h => simp; omega
  | cons a a' t T h hlt hle hT ih => rw [List.length_cons]; omega
set_option maxRecDepth 20000 in
/-- A text that has tokens is read so. -/
theorem tt_read {s : ByteArray} {K : List (Nat × ByteArray)} (h : Tt s.data.toList K) (hs : s.size ≤ 4000) : ∃ T, Toks s 0 T ∧ Ts T s ∧ Kt T 0 = K := by
  obtain ⟨T, h1, h2, h3⟩ := tt_toks s h [] rfl
  have hl := toks_len h1
  exact ⟨T, h1, ⟨by simp at hl; omega, hs, fun t ht => (h3 t ht).1, fun t ht => (h3 t ht).2⟩, h2⟩
end Go.Proofs.YtadoifnfgoonaaaGreatDoor
namespace Go.Proofs.YtadoifnfgoonaaaGreatDoor
open Go.RowKit Go.Lib
set_option maxRecDepth 20000 in
theorem addrOk_clean (n l d : ByteArray) (h : addrOk n l d = true) : n.data.toList.all Pl.tb = true := by
  simp only [addrOk, Bool.and_eq_true] at h
  exact h.2.2.2.2.1
set_option maxRecDepth 20000 in
theorem qs_len : ∀ l : List UInt8, (Pl.qs l).length ≤ 2 * l.length
  | [] => by simp [Pl.qs]
  | c :: r => by
    have := qs_len r
    rw [Pl.qs]
    split <;> simp <;> omega
def quo (l : ByteArray) : ByteArray := ⟨(34 :: Pl.qs l.data.toList ++ [34]).toArray⟩
set_option maxRecDepth 20000 in
theorem quo_size (l : ByteArray) : (quo l).size ≤ 2 * l.size + 2 := by
  have := qs_len l.data.toList
  show (34 :: Pl.qs l.data.toList ++ [34]).toArray.size ≤ _
  simp at this ⊢
  exact this
def phr (l : ByteArray) : ByteArray := ⟨(Pl.phrase l.data.toList).toArray⟩
set_option maxRecDepth 20000 in
theorem phr_size (l : ByteArray) : (phr l).size ≤ 2 * l.size + 2 := by
  have := qs_len l.data.toList
  show (Pl.phrase l.data.toList).toArray.size ≤ _
  unfold Pl.phrase
  split
  · split
    · simp; omega
    · simp at this ⊢; exact this
  · simp
def addrT (l d : ByteArray) : ByteArray := (if Pl.scan 46 false l.data.toList then l else quo l) ++ ⟨#[64]⟩ ++ d
def boxT (n l d : ByteArray) : ByteArray := if addrOk n l d then (if n.size = 0 then addrT l d else phr n ++ ⟨#[32, 60]⟩ ++ addrT l d ++ ⟨#[62]⟩) else ⟨#[]⟩
set_option maxRecDepth 20000 in
set_option maxHeartbeats 2000000 in
theorem implBox (n l d : ByteArray) (m : Int) (w : World) (hn : n.size ≤ 1100000) (hl : l.size ≤ 1100000) (hd : d.size ≤ 1100000) (hm : w.cell? ⟨1, 0, none⟩ = some (.int .i64 m)) :
    Calls Tryz.prog 12 #[box3 n l d] w fun e w' => e = .returned (.string (boxT n l d)) ∧ Below w.heap.size w w' := by
  have hA := implAddress n l d m (w.alloc (bx n l d)) hn hl hd (cell_alloc _ hm)
  have hbA : Below w.heap.size w (w.alloc (bx n l d)) := (Below.refl _ _).alloc (Nat.le_refl _) _
  have hlt := bcell_lt hm
  have Hm : Hid (∀ w2, Below (w.alloc (bx n l d)).heap.size (w.alloc (bx n l d)) w2 → w2.cell? ⟨1, 0, none⟩ = some (.int .i64 m)) := show ∀ w2, _ from by
    intro w2 hb
    exact (hb.cell (p := ⟨1, 0, none⟩) (Nat.lt_of_lt_of_le hlt hbA.size)).trans (cell_alloc _ hm)
  clear hm hlt
  cases hok : addrOk n l d
  · rw [boxT, hok]
    rw [hok] at hA
    go_enter Tryz.func12, Tryz.ntmps12
    go_wp2_with (go_at_call 34; go_must (refine hA.mono ?_; rintro e w2 ⟨rfl, hb2⟩; simp only [dcode]))
    go_ret
    exact ⟨rfl, hbA.trans (hb2.mono hbA.size)⟩
  · obtain ⟨s0, s1, s2⟩ := addrOk_sizes n l d hok
    rw [boxT, hok, if_pos rfl, addrT]
    rw [hok] at hA
    have HT := (show Hid _ from fun (w : World) hm => implAreAtoms 46 Pl.atom_point l m w (by omega) hm)
    have HQ := (show Hid (∀ w, Calls Tryz.prog 36 #[.string l] w fun e w' => e = .returned (.string (quo l)) ∧ Below w.heap.size w w') from fun (w : World) => implQuotes l w (by omega))
    have HP := (show Hid (∀ w, w.cell? ⟨1, 0, none⟩ = some (.int .i64 m) → Calls Tryz.prog 37 #[.string n] w fun e w' => e = .returned (.string (phr n)) ∧ Below w.heap.size w w') from fun (w : World) hm => implPhrase n m w (by omega) hm)
    have zq := quo_size l
    have zp := phr_size n
    have Hb := (show Hid _ from box_cells n l d w)
    generalize quo l = ql at *
    generalize phr n = pn at *
    clear hok hn hl hd
    cases hat : Pl.scan 46 false l.data.toList <;> simp only [hat] at HT
    · simp only [Bool.false_eq_true, if_false]
      clear hat
      by_cases h0 : n.size = 0
      · have hE := isEmpty_of n h0
        rw [if_pos h0]
        go_enter Tryz.func12, Tryz.ntmps12
        go_wp2_with fail
        refine hA.mono ?_
        rintro e w2 ⟨rfl, hb2⟩
        simp only [dcode]
        obtain ⟨c0, c1, c2⟩ := Hb.out _ hb2
        go_wp2_with fail
        refine (HT.out _ (Hm.out _ hb2)).mono ?_
        rintro e w3 ⟨rfl, hb3⟩
        clear c0 c1 c2
        go_wp2_with fail
        refine (HQ.out _).mono ?_
        rintro e w4 ⟨rfl, hb4⟩
        have b4 := hb2.trans ((hb3.trans (hb4.mono hb3.size)).mono hb2.size)
        obtain ⟨c0, c1, c2⟩ := Hb.out _ b4
        go_wp2
        go_ret
        exact ⟨rfl, hbA.trans (b4.mono hbA.size)⟩
      · have hE := isEmpty_ne n h0
        rw [if_neg h0]
        go_enter Tryz.func12, Tryz.ntmps12
        go_wp2_with fail
        refine hA.mono ?_
        rintro e w2 ⟨rfl, hb2⟩
        simp only [dcode]
        obtain ⟨c0, c1, c2⟩ := Hb.out _ hb2
        go_wp2_with fail
        refine (HT.out _ (Hm.out _ hb2)).mono ?_
        rintro e w3 ⟨rfl, hb3⟩
        clear c0 c1 c2
        go_wp2_with fail
        refine (HQ.out _).mono ?_
        rintro e w4 ⟨rfl, hb4⟩
        have b4 := hb2.trans ((hb3.trans (hb4.mono hb3.size)).mono hb2.size)
        obtain ⟨c0, c1, c2⟩ := Hb.out _ b4
        go_wp2_with fail
        refine (HP.out _ (Hm.out _ b4)).mono ?_
        rintro e w5 ⟨rfl, hb5⟩
        go_wp2
        go_ret
        exact ⟨rfl, hbA.trans ((b4.trans (hb5.mono b4.size)).mono hbA.size)⟩
    · simp only [if_true]
      clear hat
      by_cases h0 : n.size = 0
      · have hE := isEmpty_of n h0
        rw [if_pos h0]
        go_enter Tryz.func12, Tryz.ntmps12
        go_wp2_with fail
        refine hA.mono ?_
        rintro e w2 ⟨rfl, hb2⟩
        simp only [dcode]
        obtain ⟨c0, c1, c2⟩ := Hb.out _ hb2
        go_wp2_with fail
        refine (HT.out _ (Hm.out _ hb2)).mono ?_
        rintro e w3 ⟨rfl, hb3⟩
        have b4 := hb2.trans (hb3.mono hb2.size)
        clear c0 c1 c2
        obtain ⟨c0, c1, c2⟩ := Hb.out _ b4
        go_wp2
        go_ret
        exact ⟨rfl, hbA.trans (b4.mono hbA.size)⟩
      · have hE := isEmpty_ne n h0
        rw [if_neg h0]
        go_enter Tryz.func12, Tryz.ntmps12
        go_wp2_with fail
        refine hA.mono ?_
        rintro e w2 ⟨rfl, hb2⟩
        simp only [dcode]
        obtain ⟨c0, c1, c2⟩ := Hb.out _ hb2
        go_wp2_with fail
        refine (HT.out _ (Hm.out _ hb2)).mono ?_
        rintro e w3 ⟨rfl, hb3⟩
        have b4 := hb2.trans (hb3.mono hb2.size)
        clear c0 c1 c2
        obtain ⟨c0, c1, c2⟩ := Hb.out _ b4
        go_wp2_with fail
        refine (HP.out _ (Hm.out _ b4)).mono ?_
        rintro e w5 ⟨rfl, hb5⟩
        go_wp2
        go_ret
        exact ⟨rfl, hbA.trans ((b4.trans (hb5.mono b4.size)).mono hbA.size)⟩
set_option maxRecDepth 20000 in
set_option maxHeartbeats 2000000 in
theorem specBox (n l d : ByteArray) (w : World) (hn : n.size ≤ 1100000) (hl : l.size ≤ 1100000) (hd : d.size ≤ 1100000) :
    Calls Tryz.prog 24 #[box3 n l d] w fun e w' => e = .returned (.string (boxT n l d)) ∧ Below w.heap.size w w' := by
  have hA := specAddress n l d (w.alloc (bx n l d)) hn hl hd
  have hbA : Below w.heap.size w (w.alloc (bx n l d)) := (Below.refl _ _).alloc (Nat.le_refl _) _
  cases hok : addrOk n l d
  · rw [boxT, hok]
    rw [hok] at hA
    go_enter Tryz.func24, Tryz.ntmps24
    go_wp2_with (go_at_call 23; go_must (refine hA.mono ?_; rintro e w2 ⟨rfl, hb2⟩; simp only [dcode]))
    go_ret
    exact ⟨rfl, hbA.trans (hb2.mono hbA.size)⟩
  · obtain ⟨s0, s1, s2⟩ := addrOk_sizes n l d hok
    rw [boxT, hok, if_pos rfl, addrT]
    rw [hok] at hA
    have HT := (show Hid _ from fun (w : World) => specAtoms 46 46 rfl l w (by omega))
    have HQ := (show Hid (∀ w, Calls Tryz.prog 48 #[.string l] w fun e w' => e = .returned (.string (quo l)) ∧ Below w.heap.size w w') from fun (w : World) => specQuote l w (by omega))
    have HP := (show Hid (∀ w, Calls Tryz.prog 27 #[.string n] w fun e w' => e = .returned (.string (phr n)) ∧ Below w.heap.size w w') from fun (w : World) => specPhrase n w (by omega))
    have zq := quo_size l
    have zp := phr_size n
    have Hb := (show Hid _ from box_cells n l d w)
    generalize quo l = ql at *
    generalize phr n = pn at *
    clear hok hn hl hd
    cases hat : Pl.scan 46 false l.data.toList <;> simp only [hat] at HT
    · simp only [Bool.false_eq_true, if_false]
      clear hat
      by_cases h0 : n.size = 0
      · have hE := isEmpty_of n h0
        rw [if_pos h0]
        go_enter Tryz.func24, Tryz.ntmps24
        go_wp2_with fail
        refine hA.mono ?_
        rintro e w2 ⟨rfl, hb2⟩
        simp only [dcode]
        obtain ⟨c0, c1, c2⟩ := Hb.out _ hb2
        go_wp2_with fail
        refine (HT.out _).mono ?_
        rintro e w3 ⟨rfl, hb3⟩
        clear c0 c1 c2
        go_wp2_with fail
        refine (HQ.out _).mono ?_
        rintro e w4 ⟨rfl, hb4⟩
        have b4 := hb2.trans ((hb3.trans (hb4.mono hb3.size)).mono hb2.size)
        obtain ⟨c0, c1, c2⟩ := Hb.out _ b4
        go_wp2
        go_ret
        exact ⟨rfl, hbA.trans (b4.mono hbA.size)⟩
      · have hE := isEmpty_ne n h0
        rw [if_neg h0]
        go_enter Tryz.func24, Tryz.ntmps24
        go_wp2_with fail
        refine hA.mono ?_
        rintro e w2 ⟨rfl, hb2⟩
        simp only [dcode]
        obtain ⟨c0, c1, c2⟩ := Hb.out _ hb2
        go_wp2_with fail
        refine (HT.out _).mono ?_
        rintro e w3 ⟨rfl, hb3⟩
        clear c0 c1 c2
        go_wp2_with fail
        refine (HQ.out _).mono ?_
        rintro e w4 ⟨rfl, hb4⟩
        have b4 := hb2.trans ((hb3.trans (hb4.mono hb3.size)).mono hb2.size)
        obtain ⟨c0, c1, c2⟩ := Hb.out _ b4
        have Hc := (show Hid (∀ w9, Below w4.heap.size w4 w9 → w9.cell? ⟨w.heap.size, 2, none⟩ = some (.string d)) from fun w9 h => (Hb.out _ (b4.trans (h.mono b4.size))).2.2)
        go_wp2
        go_region_with (go_at_call 27; (refine (HP.out _).mono ?_; rintro e w5 ⟨rfl, hb5⟩; have c5 := Hc.out w5 (((Below.refl w4.heap.size w4).drew).trans hb5)))
        all_goals
          go_wp2
          go_ret
          refine ⟨?_, hbA.trans ((b4.trans ((((Below.refl w4.heap.size w4).drew).trans hb5).mono b4.size)).mono hbA.size)⟩
          simp only [ByteArray.append_assoc]
          rfl
    · simp only [if_true]
      clear hat
      by_cases h0 : n.size = 0
      · have hE := isEmpty_of n h0
        rw [if_pos h0]
        go_enter Tryz.func24, Tryz.ntmps24
        go_wp2_with fail
        refine hA.mono ?_
        rintro e w2 ⟨rfl, hb2⟩
        simp only [dcode]
        obtain ⟨c0, c1, c2⟩ := Hb.out _ hb2
        go_wp2_with fail
        refine (HT.out _).mono ?_
        rintro e w3 ⟨rfl, hb3⟩
        have b4 := hb2.trans (hb3.mono hb2.size)
        clear c0 c1 c2
        obtain ⟨c0, c1, c2⟩ := Hb.out _ b4
        go_wp2
        go_ret
        exact ⟨rfl, hbA.trans (b4.mono hbA.size)⟩
      · have hE := isEmpty_ne n h0
        rw [if_neg h0]
        go_enter Tryz.func24, Tryz.ntmps24
        go_wp2_with fail
        refine hA.mono ?_
        rintro e w2 ⟨rfl, hb2⟩
        simp only [dcode]
        obtain ⟨c0, c1, c2⟩ := Hb.out _ hb2
        go_wp2_with fail
        refine (HT.out _).mono ?_
        rintro e w3 ⟨rfl, hb3⟩
        have b4 := hb2.trans (hb3.mono hb2.size)
        clear c0 c1 c2
        obtain ⟨c0, c1, c2⟩ := Hb.out _ b4
        have Hc := (show Hid (∀ w9, Below w3.heap.size w3 w9 → w9.cell? ⟨w.heap.size, 2, none⟩ = some (.string d)) from fun w9 h => (Hb.out _ (b4.trans (h.mono b4.size))).2.2)
        go_wp2
        go_region_with (go_at_call 27; (refine (HP.out _).mono ?_; rintro e w5 ⟨rfl, hb5⟩; have c5 := Hc.out w5 (((Below.refl w3.heap.size w3).drew).trans hb5)))
        all_goals
          go_wp2
          go_ret
          refine ⟨?_, hbA.trans ((b4.trans ((((Below.refl w3.heap.size w3).drew).trans hb5).mono b4.size)).mono hbA.size)⟩
          simp only [ByteArray.append_assoc]
          rfl
end Go.Proofs.YtadoifnfgoonaaaGreatDoor
namespace Go.Proofs.YtadoifnfgoonaaaGreatDoor
open Go.RowKit Go.Lib
set_option maxRecDepth 20000 in
/-- The first atom of a text of atoms with d between. -/
theorem scan_first (d : UInt8) : ∀ l : List UInt8, Pl.scan d true l = true → ∃ x, x.all Pl.atom = true ∧ (l = x ∨ ∃ l', l = x ++ d :: l' ∧ Pl.scan d false l' = true)
  | [], _ => ⟨[], rfl, .inl rfl⟩
  | c :: r, h => by
    rw [Pl.scan] at h
    by_cases ha : Pl.atom c = true
    · rw [if_pos ha] at h
      obtain ⟨x, h1, h2⟩ := scan_first d r h
      refine ⟨c :: x, by rw [List.all_cons, ha, h1]; rfl, ?_⟩
      rcases h2 with rfl | ⟨l', rfl, h3⟩
      · exact .inl rfl
      · exact .inr ⟨l', rfl, h3⟩
    · rw [if_neg ha] at h
      by_cases hc : (c == d && true) = true
      · rw [if_pos hc] at h
        have : c = d := by simpa using hc
        subst this
        exact ⟨[], rfl, .inr ⟨r, rfl, h⟩⟩
      · rw [if_neg hc] at h
        cases h
set_option maxRecDepth 20000 in
theorem scan_word (d : UInt8) (l : List UInt8) (h : Pl.scan d false l = true) : ∃ c x, (c :: x).all Pl.atom = true ∧ (l = c :: x ∨ ∃ l', l = c :: x ++ d :: l' ∧ Pl.scan d false l' = true) := by
  cases l with
  | nil => cases h
  | cons c r =>
    rw [Pl.scan] at h
    by_cases ha : Pl.atom c = true
    · rw [if_pos ha] at h
      obtain ⟨x, h1, h2⟩ := scan_first d r h
      refine ⟨c, x, by rw [List.all_cons, ha, h1]; rfl, ?_⟩
      rcases h2 with rfl | ⟨l', rfl, h3⟩
      · exact .inl rfl
      · exact .inr ⟨l', rfl, h3⟩
    · rw [if_neg ha, if_neg (by simp)] at h
      cases h
/-- Ahead of what no atom goes on. -/
def noAtom (r : List UInt8) : Prop := ∀ d q, r = d :: q → Pl.atom d = false
set_option maxRecDepth 20000 in
theorem words_dots : ∀ (n : Nat) (l : List UInt8), l.length ≤ n → Pl.scan 46 false l = true → ∃ Q : List (Nat × ByteArray), Q ≠ [] ∧ (∀ p ∈ Q, p.1 = 1) ∧ dotT Q = l ∧ ∀ r K, Tt r K → noAtom r → Tt (l ++ r) (dotK Q ++ K)
  | 0, l, hl, h => by
    cases l with
    | nil => cases h
    | cons c r => simp at hl
  | n + 1, l, hl, h => by
    obtain ⟨c, x, hx, h1 | ⟨l', h1, h2⟩⟩ := scan_word 46 l h
    · subst h1
      exact ⟨[(1, ⟨(c :: x).toArray⟩)], by simp, by simp, rfl, fun r K hK hr => .atom c x r K hx hr hK⟩
    · subst h1
      obtain ⟨Q, q1, q2, q3, q4⟩ := words_dots n l' (by simp at hl; omega) h2
      refine ⟨(1, ⟨(c :: x).toArray⟩) :: Q, by simp, ?_, ?_, fun r K hK hr => ?_⟩
      · intro p hp
        rcases List.mem_cons.1 hp with rfl | hp
        · rfl
        · exact q2 p hp
      · cases Q with
        | nil => exact absurd rfl q1
        | cons a Q => simp only [dotT]; rw [q3]
      · cases Q with
        | nil => exact absurd rfl q1
        | cons a Q =>
          rw [List.append_assoc]
          exact .atom c x _ _ hx (fun d q e => by injection e with e _; rw [← e]; exact Pl.atom_point) (.spec 46 _ _ (by decide) (q4 r K hK hr))
set_option maxRecDepth 20000 in
theorem words_blanks : ∀ (n : Nat) (l : List UInt8), l.length ≤ n → Pl.scan 32 false l = true → ∃ P : List (Nat × ByteArray), P ≠ [] ∧ P.all isWd = true ∧ phT P = l ∧ ∀ r K, Tt r K → noAtom r → Tt (l ++ r) (P ++ K)
  | 0, l, hl, h => by
    cases l with
    | nil => cases h
    | cons c r => simp at hl
  | n + 1, l, hl, h => by
    obtain ⟨c, x, hx, h1 | ⟨l', h1, h2⟩⟩ := scan_word 32 l h
    · subst h1
      exact ⟨[(1, ⟨(c :: x).toArray⟩)], by simp, by simp [isWd], by simp [phT], fun r K hK hr => .atom c x r K hx hr hK⟩
    · subst h1
      obtain ⟨Q, q1, q2, q3, q4⟩ := words_blanks n l' (by simp at hl; omega) h2
      refine ⟨(1, ⟨(c :: x).toArray⟩) :: Q, by simp, by rw [List.all_cons, q2]; rfl, ?_, fun r K hK hr => ?_⟩
      · cases Q with
        | nil => exact absurd rfl q1
        | cons a Q => rw [← q3]; simp [phT]
      · rw [List.append_assoc]
        exact .atom c x _ _ hx (fun d q e => by injection e with e _; rw [← e]; exact Pl.atom_blank) (.blank _ _ (q4 r K hK hr))
set_option maxRecDepth 20000 in
/-- A phrase's tokens. -/
theorem words_phrase (n : ByteArray) (hn : n.data.toList.all Pl.tb = true) : ∃ P : List (Nat × ByteArray), P ≠ [] ∧ P.all isWd = true ∧ phT P = n.data.toList ∧ ∀ r K, Tt r K → noAtom r → Tt ((phr n).data.toList ++ r) (P ++ K) := by
  have hp : (phr n).data.toList = Pl.phrase n.data.toList := rfl
  rw [hp, Pl.phrase, if_pos hn]
  by_cases h : Pl.scan 32 false n.data.toList = true
  · rw [if_pos h]
    exact words_blanks _ _ (Nat.le_refl _) h
  · rw [if_neg h]
    refine ⟨[(2, n)], by simp, by simp [isWd], by simp [phT], fun r K hK hr => ?_⟩
    have := Tt.quot n.data.toList r K hK
    simpa using this
set_option maxRecDepth 20000 in
theorem words_local (l : ByteArray) : ∃ Q : List (Nat × ByteArray), Q ≠ [] ∧ Q.all isWd = true ∧ dotT Q = l.data.toList ∧ ∀ r K, Tt r K → noAtom r → Tt ((if Pl.scan 46 false l.data.toList then l else quo l).data.toList ++ r) (dotK Q ++ K) := by
  by_cases h : Pl.scan 46 false l.data.toList = true
  · rw [if_pos h]
    obtain ⟨Q, h1, h2, h3, h4⟩ := words_dots _ _ (Nat.le_refl _) h
    exact ⟨Q, h1, List.all_eq_true.2 fun p hp => by unfold isWd; rw [h2 p hp]; rfl, h3, h4⟩
  · rw [if_neg h]
    refine ⟨[(2, l)], by simp, by simp [isWd], rfl, fun r K hK hr => ?_⟩
    have := Tt.quot l.data.toList r K hK
    simpa [quo, dotK] using this
set_option maxRecDepth 20000 in
theorem lit_form (l : List UInt8) (h : Pl.isLit l = true) : ∃ M : List UInt8, M.all Pl.litB = true ∧ l = 91 :: (M ++ [93]) := by
  cases l with
  | nil => exact absurd h (by decide)
  | cons c r =>
    have hc : c = 91 := by
      unfold Pl.isLit at h
      rw [Bool.and_eq_true] at h
      have h5 := h.1
      simp [hasPrefix, List.isPrefixOf] at h5
      exact h5.symm
    subst hc
    by_cases h2 : 2 ≤ (91 :: r).length
    · by_cases h3 : (91 :: r)[(91 :: r).length - 1] = 93
      · rw [Pl.lit_mid (91 :: r) r rfl h2 h3] at h
        refine ⟨Pl.mid (91 :: r), h, ?_⟩
        have hr : r ≠ [] := by intro e2; subst e2; simp at h2
        have h4 : r = r.take (r.length - 1) ++ [93] := by
          have h5 : (91 :: r)[(91 :: r).length - 1]'(by simp) = r.getLast hr := by
            have e6 : (91 :: r).length - 1 = (r.length - 1) + 1 := by simp; have := List.length_pos_iff.2 hr; omega
            simp only [e6, List.getElem_cons_succ]
            rw [List.getLast_eq_getElem]
          rw [h5] at h3
          conv => lhs; rw [← List.dropLast_concat_getLast hr, h3]
          rw [List.dropLast_eq_take]
        have h7 : Pl.mid (91 :: r) = r.take (r.length - 1) := by
          unfold Pl.mid
          have e6 : (91 :: r).length - 1 = (r.length - 1) + 1 := by simp; have := List.length_pos_iff.2 hr; omega
          rw [e6]
          rfl
        rw [h7, ← h4]
      · rw [Pl.lit_open (91 :: r) r rfl h2 h3] at h
        cases h
    · rw [Pl.lit_short (91 :: r) r rfl (by omega)] at h
      cases h
set_option maxRecDepth 20000 in
theorem words_dom (d : ByteArray) (h : Pl.domI d.data.toList = true) : ∃ K0, Dom K0 d ∧ ∀ r K, Tt r K → noAtom r → Tt (d.data.toList ++ r) (K0 ++ K) := by
  have hl : d.data.toList.length = d.size := by simp
  unfold Pl.domI at h
  rw [Bool.and_eq_true, Bool.or_eq_true, decide_eq_true_eq] at h
  obtain ⟨hlen, h | h⟩ := h
  · obtain ⟨Q, h1, h2, h3, h4⟩ := words_dots _ _ (Nat.le_refl _) h
    exact ⟨dotK Q, .dots Q h1 h2 (by rw [h3]; omega) d (by rw [h3]), h4⟩
  · obtain ⟨M, hM, hd⟩ := lit_form _ h
    have hMl : M.length ≤ 255 := by rw [hd] at hlen; simp at hlen; omega
    refine ⟨[(3, ⟨M.toArray⟩)], .lit ⟨M.toArray⟩ (by show M.toArray.size ≤ 1000; simp; omega) d ?_, fun r K hK hr => ?_⟩
    · apply ByteArray.ext
      apply Array.toList_inj.1
      rw [hd]
      simp [ByteArray.data_append]
    · rw [hd]
      have := Tt.lit M r K hM hK
      simpa using this
set_option maxRecDepth 20000 in
/-- A box: its tokens ahead of what no atom goes on. -/
theorem words_box (n l d : ByteArray) (hok : addrOk n l d = true) (r : List UInt8) (L : List (Nat × ByteArray)) (hL : Tt r L) (hr : noAtom r) : ∃ K, Bxk L K n l d ∧ Tt ((boxT n l d).data.toList ++ r) K := by
  have hsz := addrOk_sizes n l d hok
  have hk := hok
  unfold addrOk at hk
  simp only [Bool.and_eq_true, decide_eq_true_eq] at hk
  obtain ⟨hl1, hl2, hltb, hn1, hntb, hdom⟩ := hk
  obtain ⟨Q, q1, q2, q3, q4⟩ := words_local l
  obtain ⟨K0, d1, d2⟩ := words_dom d hdom
  have hll : l.data.toList.length = l.size := by simp
  have hnl : n.data.toList.length = n.size := by simp
  have hAd : Ad Q K0 l d := ⟨q1, q2, by rw [q3]; omega, by rw [q3], d1⟩
  have hA : ∀ r L, Tt r L → noAtom r → Tt ((addrT l d).data.toList ++ r) (adK Q K0 L) := by
    intro r L hL hr
    have e : (addrT l d).data.toList ++ r = (if Pl.scan 46 false l.data.toList then l else quo l).data.toList ++ (64 :: (d.data.toList ++ r)) := by
      unfold addrT
      simp [ByteArray.data_append]
    rw [e]
    exact q4 _ _ (.spec 64 _ _ (by decide) (d2 r L hL hr)) (fun c q e => by injection e with e _; rw [← e]; decide +kernel)
  unfold boxT
  rw [if_pos hok]
  by_cases h0 : n.size = 0
  · rw [if_pos h0]
    obtain rfl : n = ⟨#[]⟩ := by
      apply ByteArray.ext
      apply Array.toList_inj.1
      exact List.eq_nil_of_length_eq_zero (by rw [hnl]; exact h0)
    exact ⟨adK Q K0 L, .plain Q K0 l d hAd, hA r L hL hr⟩
  · rw [if_neg h0]
    obtain ⟨P, p1, p2, p3, p4⟩ := words_phrase n hntb
    refine ⟨P ++ (5, ⟨#[60]⟩) :: adK Q K0 ((5, ⟨#[62]⟩) :: L), .named P Q K0 n l d p1 p2 (by rw [p3]; omega) (by rw [p3]) hAd, ?_⟩
    have e : (phr n ++ ⟨#[32, 60]⟩ ++ addrT l d ++ ⟨#[62]⟩).data.toList ++ r = (phr n).data.toList ++ (32 :: 60 :: ((addrT l d).data.toList ++ 62 :: r)) := by
      simp [ByteArray.data_append]
    rw [e]
    exact p4 _ _ (.blank _ _ (.spec 60 _ _ (by decide) (hA _ _ (.spec 62 _ _ (by decide) hL) (fun c q e => by injection e with e _; rw [← e]; decide +kernel)))) (fun c q e => by injection e with e _; rw [← e]; exact Pl.atom_blank)
end Go.Proofs.YtadoifnfgoonaaaGreatDoor
