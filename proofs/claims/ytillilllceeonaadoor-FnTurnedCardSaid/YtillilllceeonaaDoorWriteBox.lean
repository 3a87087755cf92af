
/- Lowered letters: plain, and the walks of the two. -/

/- The walks of the two AddressKey and of the two WriteBox. -/

/- The walks of the two WriteBox. -/
import Derived.Test.YtillilllceeonaaDoorDraw
import Derived.Laws.IdiomStrings
import Derived.Lib.UnsafeStr
import Derived.WalkSmall
import Derived.Test.YtillilllceeonaaDoorAddr
import Derived.Deep.QuietTactic
import Derived.BigQuiet
import Derived.Deep.RegionWith
namespace Go.Proofs.YtillilllceeonaaDoor
open Go.RowKit Go.Lib
set_option maxRecDepth 20000 in
theorem mkH {p : Prop} (h : p) : Hid p := h
def small (c : UInt8) : UInt8 := if 65 ≤ c.toNat ∧ c.toNat ≤ 90 then UInt8.ofNat (c.toNat + 32) else c
def lower (l : List UInt8) : List UInt8 := l.map small

set_option maxRecDepth 20000 in
theorem small_yes (c : UInt8) (h : 65 ≤ c.toNat ∧ c.toNat ≤ 90) : ((small c).toNat : Int) = (c.toNat : Int) + 32 := by
  unfold small
  rw [if_pos h, UInt8.toNat_ofNat_of_lt' (by simp [UInt8.size]; omega)]
  omega
set_option maxRecDepth 20000 in
theorem small_no (c : UInt8) (h : ¬ (65 ≤ c.toNat ∧ c.toNat ≤ 90)) : small c = c := by
  unfold small
  rw [if_neg h]

/-- The bytes that are lowered so far. -/
def lowTo (l : List UInt8) (k : Nat) : List UInt8 := lower (l.take k) ++ l.drop k
set_option maxRecDepth 20000 in
theorem lowTo_len (l : List UInt8) (k : Nat) : (lowTo l k).length = l.length := by
  simp only [lowTo, lower, List.length_append, List.length_map, List.length_take, List.length_drop]; omega
set_option maxRecDepth 20000 in
theorem lowTo_zero (l : List UInt8) : lowTo l 0 = l := by simp [lowTo, lower]
set_option maxRecDepth 20000 in
theorem lowTo_all (l : List UInt8) (k : Nat) (h : l.length ≤ k) : lowTo l k = lower l := by
  rw [lowTo, List.take_of_length_le h, List.drop_eq_nil_of_le h, List.append_nil]
set_option maxRecDepth 20000 in
theorem lowTo_get (l : List UInt8) (k : Nat) (h : k < l.length) : (lowTo l k)[k]'(by rw [lowTo_len]; exact h) = l[k] := by
  simp only [lowTo, lower]
  rw [List.getElem_append_right (by simp; omega)]
  simp [List.length_take, Nat.min_eq_left (Nat.le_of_lt h)]
set_option maxRecDepth 20000 in
theorem lowTo_set (l : List UInt8) (k : Nat) (h : k < l.length) : (lowTo l k).set k (small l[k]) = lowTo l (k + 1) := by
  have e1 : l.take (k + 1) = l.take k ++ [l[k]] := by rw [List.take_succ_eq_append_getElem h]
  have hl : (lower (l.take k)).length = k := by simp [lower]; omega
  rw [lowTo, List.set_append, if_neg (by omega), hl, Nat.sub_self, List.drop_eq_getElem_cons h, List.set_cons_zero, lowTo, e1, lower, lower, List.map_append, List.append_assoc]
  rfl
set_option maxRecDepth 20000 in
theorem lowTo_same (l : List UInt8) (k : Nat) (h : k < l.length) (hs : small l[k] = l[k]) : lowTo l k = lowTo l (k + 1) := by
  rw [← lowTo_set l k h, hs, ← lowTo_get l k h, List.set_getElem_self]

/-- Block g holds the bytes p, each free to be written. -/
def HoldsB (g : Nat) (p : List UInt8) (w : World) : Prop := ∀ (j : Nat) (hj : j < p.length), w.cell? ⟨g, j, none⟩ = some (.int .u8 (p[j].toNat : Int)) ∧ w.frozen? ⟨g, j, none⟩ = false

set_option maxRecDepth 20000 in
theorem HoldsB.back {P : Program} {g cap : Nat} {p : List UInt8} {w : World} (h : HoldsB g p w) (src dst : TypeId) (hs : P.underlying src = some (.slice 5)) (he : P.underlying 5 = some (.int .u8)) (hd : P.underlying dst = some .string) :
    (convert src dst (.slice (some ⟨g, 0, none⟩) p.length cap)).run P w = .ok (.string ⟨p.toArray⟩) w :=
  run_convert_bytes_back w src dst 5 ⟨g, 0, none⟩ cap p hs he hd (fun j hj => by rw [add_off]; exact (h j hj).1)

set_option maxRecDepth 20000 in
theorem bytesOf {P : Program} (src dst : TypeId) (hs : P.underlying src = some .string) (hd : P.underlying dst = some (.slice 5)) (he : P.underlying 5 = some (.int .u8)) (s : ByteArray) (w : World) :
    ∃ cap W, (convert src dst (.string s)).run P w = .ok (.slice (some ⟨w.heap.size, 0, none⟩) s.size cap) W ∧ HoldsB w.heap.size s.data.toList W ∧ Below w.heap.size w W := by
  refine ⟨_, _, run_bytes_of_string w src dst 5 s hs hd he, ?_, (Below.refl _ _).drew.alloc (Nat.le_refl _) _⟩
  intro j hj
  have hj' : j < s.data.size := by simpa using hj
  have hsz : j < (bytesRow s (grownCap w s.size 0 5)).size := by
    simp only [bytesRow, Array.size_append, Array.size_map]; omega
  constructor
  · have e := World.cell?_alloc_mark w.drew (bytesRow s (grownCap w s.size 0 5)) 5 ((bytesRow s (grownCap w s.size 0 5)).size, (bytesRow s (grownCap w s.size 0 5)).size + 1) j
    refine e.trans ?_
    unfold bytesRow
    rw [Array.getElem?_append_left (by simpa using hj')]
    rw [Array.getElem?_map, Array.getElem?_eq_getElem hj']
    rfl
  · have e := World.frozen?_alloc_mark w.drew (bytesRow s (grownCap w s.size 0 5)) 5 (bytesRow s (grownCap w s.size 0 5)).size ((bytesRow s (grownCap w s.size 0 5)).size + 1) j
    refine e.trans ?_
    simp only [Bool.and_eq_false_imp, decide_eq_true_eq, decide_eq_false_iff_not]
    omega
set_option maxRecDepth 20000 in
theorem HoldsB.set {g : Nat} {p : List UInt8} {w : World} (h : HoldsB g p w) (k : Nat) (hk : k < p.length) (c : UInt8) : HoldsB g (p.set k c) (w.setCell ⟨g, k, none⟩ (.int .u8 (c.toNat : Int))) := by
  intro j hj
  have hj' : j < p.length := by simpa using hj
  refine ⟨?_, by rw [World.frozen?_setCell]; exact (h j hj').2⟩
  by_cases e : k = j
  · subst e
    rw [World.cell?_setCell_same w _ _ (h k hk).1, List.getElem_set_self]
  · rw [World.cell?_setCell_other w ⟨g, k, none⟩ ⟨g, j, none⟩ _ (by simp), List.getElem_set_ne e]
    exact (h j hj').1
end Go.Proofs.YtillilllceeonaaDoor
namespace Go.Proofs.YtillilllceeonaaDoor
open Go.RowKit Go.Lib
set_option maxRecDepth 20000 in
theorem addrOk_sizes (n l d : ByteArray) (h : addrOk n l d = true) : n.size ≤ 200 ∧ l.size ≤ 64 ∧ d.size ≤ 255 := by
  simp only [addrOk, Bool.and_eq_true, decide_eq_true_eq, Pl.domI] at h
  obtain ⟨_, h1, _, h2, _, h3, _⟩ := h
  exact ⟨h2, h1, by simpa using h3⟩
abbrev bx (n l d : ByteArray) : Obj := .cells #[.string n, .string l, .string d] 107
set_option maxRecDepth 20000 in
theorem box_cells (n l d : ByteArray) (w w2 : World) (hb : Below (w.alloc (bx n l d)).heap.size (w.alloc (bx n l d)) w2) :
    w2.cell? ⟨w.heap.size, 0, none⟩ = some (.string n) ∧ w2.cell? ⟨w.heap.size, 1, none⟩ = some (.string l) ∧ w2.cell? ⟨w.heap.size, 2, none⟩ = some (.string d) := by
  refine ⟨(hb.cell (p := ⟨w.heap.size, 0, none⟩) (by simp)).trans ?_, (hb.cell (p := ⟨w.heap.size, 1, none⟩) (by simp)).trans ?_, (hb.cell (p := ⟨w.heap.size, 2, none⟩) (by simp)).trans ?_⟩ <;> simp
def keyT (n l d : ByteArray) : ByteArray := if addrOk n l d then l ++ ⟨#[64]⟩ ++ ⟨(lower d.data.toList).toArray⟩ else ⟨#[]⟩
end Go.Proofs.YtillilllceeonaaDoor
namespace Go.Proofs.YtillilllceeonaaDoor
open Go.RowKit Go.Lib
set_option maxRecDepth 20000 in
theorem addrOk_clean (n l d : ByteArray) (h : addrOk n l d = true) : n.data.toList.all Pl.tb = true := by
  simp only [addrOk, Bool.and_eq_true] at h
  exact h.2.2.2.2.1
set_option maxRecDepth 20000 in
theorem qs_len : ∀ l : List UInt8, (Pl.qs l).length ≤ 2 * l.length
  | [] => by simp [Pl.qs]
  | c :: r => by
    have := qs_len r
    rw [Pl.qs]
    split <;> simp <;> omega
def quo (l : ByteArray) : ByteArray := ⟨(34 :: Pl.qs l.data.toList ++ [34]).toArray⟩
set_option maxRecDepth 20000 in
theorem quo_size (l : ByteArray) : (quo l).size ≤ 2 * l.size + 2 := by
  have := qs_len l.data.toList
  show (34 :: Pl.qs l.data.toList ++ [34]).toArray.size ≤ _
  simp at this ⊢
  exact this
def phr (l : ByteArray) : ByteArray := ⟨(Pl.phrase l.data.toList).toArray⟩
set_option maxRecDepth 20000 in
theorem phr_size (l : ByteArray) : (phr l).size ≤ 2 * l.size + 2 := by
  have := qs_len l.data.toList
  show (Pl.phrase l.data.toList).toArray.size ≤ _
  unfold Pl.phrase
  split
  · split
    · simp; omega
    · simp at this ⊢; exact this
  · simp
def addrT (l d : ByteArray) : ByteArray := (if Pl.scan 46 false l.data.toList then l else quo l) ++ ⟨#[64]⟩ ++ d
def boxT (n l d : ByteArray) : ByteArray := if addrOk n l d then (if n.size = 0 then addrT l d else phr n ++ ⟨#[32, 60]⟩ ++ addrT l d ++ ⟨#[62]⟩) else ⟨#[]⟩
set_option maxRecDepth 20000 in
set_option maxHeartbeats 2000000 in
theorem specBox (n l d : ByteArray) (w : World) (hn : n.size ≤ 1100000) (hl : l.size ≤ 1100000) (hd : d.size ≤ 1100000) :
    Calls Tryd.prog 58 #[box3 n l d] w fun e w' => e = .returned (.string (boxT n l d)) ∧ Below w.heap.size w w' := by
  have hA := specAddress n l d (w.alloc (bx n l d)) hn hl hd
  have hbA : Below w.heap.size w (w.alloc (bx n l d)) := (Below.refl _ _).alloc (Nat.le_refl _) _
  cases hok : addrOk n l d
  · rw [boxT, hok]
    rw [hok] at hA
    go_enter Tryd.func58, Tryd.ntmps58
    go_wp2_with (go_at_call 57; go_must (refine hA.mono ?_; rintro e w2 ⟨rfl, hb2⟩; simp only [dcode]))
    go_ret
    exact ⟨rfl, hbA.trans (hb2.mono hbA.size)⟩
  · obtain ⟨s0, s1, s2⟩ := addrOk_sizes n l d hok
    rw [boxT, hok, if_pos rfl, addrT]
    rw [hok] at hA
    have HT := (show Hid _ from fun (w : World) => specAtoms 46 46 rfl l w (by omega))
    have HQ := (show Hid (∀ w, Calls Tryd.prog 74 #[.string l] w fun e w' => e = .returned (.string (quo l)) ∧ Below w.heap.size w w') from fun (w : World) => specQuote l w (by omega))
    have HP := (show Hid (∀ w, Calls Tryd.prog 61 #[.string n] w fun e w' => e = .returned (.string (phr n)) ∧ Below w.heap.size w w') from fun (w : World) => specPhrase n w (by omega))
    have zq := quo_size l
    have zp := phr_size n
    have Hb := (show Hid _ from box_cells n l d w)
    generalize quo l = ql at *
    generalize phr n = pn at *
    clear hok hn hl hd
    cases hat : Pl.scan 46 false l.data.toList <;> simp only [hat] at HT
    · simp only [Bool.false_eq_true, if_false]
      clear hat
      by_cases h0 : n.size = 0
      · have hE := isEmpty_of n h0
        rw [if_pos h0]
        go_enter Tryd.func58, Tryd.ntmps58
        go_wp2_with fail
        refine hA.mono ?_
        rintro e w2 ⟨rfl, hb2⟩
        simp only [dcode]
        obtain ⟨c0, c1, c2⟩ := Hb.out _ hb2
        go_wp2_with fail
        refine (HT.out _).mono ?_
        rintro e w3 ⟨rfl, hb3⟩
        clear c0 c1 c2
        go_wp2_with fail
        refine (HQ.out _).mono ?_
        rintro e w4 ⟨rfl, hb4⟩
        have b4 := hb2.trans ((hb3.trans (hb4.mono hb3.size)).mono hb2.size)
        obtain ⟨c0, c1, c2⟩ := Hb.out _ b4
        go_wp2
        go_ret
        exact ⟨rfl, hbA.trans (b4.mono hbA.size)⟩
      · have hE := isEmpty_ne n h0
        rw [if_neg h0]
        go_enter Tryd.func58, Tryd.ntmps58
        go_wp2_with fail
        refine hA.mono ?_
        rintro e w2 ⟨rfl, hb2⟩
        simp only [dcode]
        obtain ⟨c0, c1, c2⟩ := Hb.out _ hb2
        go_wp2_with fail
        refine (HT.out _).mono ?_
        rintro e w3 ⟨rfl, hb3⟩
        clear c0 c1 c2
        go_wp2_with fail
        refine (HQ.out _).mono ?_
        rintro e w4 ⟨rfl, hb4⟩
        have b4 := hb2.trans ((hb3.trans (hb4.mono hb3.size)).mono hb2.size)
        obtain ⟨c0, c1, c2⟩ := Hb.out _ b4
        have Hc := (show Hid (∀ w9, Below w4.heap.size w4 w9 → w9.cell? ⟨w.heap.size, 2, none⟩ = some (.string d)) from fun w9 h => (Hb.out _ (b4.trans (h.mono b4.size))).2.2)
        go_wp2
        go_region_with (go_at_call 61; (refine (HP.out _).mono ?_; rintro e w5 ⟨rfl, hb5⟩; have c5 := Hc.out w5 (((Below.refl w4.heap.size w4).drew).trans hb5)))
        all_goals
          go_wp2
          go_ret
          refine ⟨?_, hbA.trans ((b4.trans ((((Below.refl w4.heap.size w4).drew).trans hb5).mono b4.size)).mono hbA.size)⟩
          simp only [ByteArray.append_assoc]
          rfl
    · simp only [if_true]
      clear hat
      by_cases h0 : n.size = 0
      · have hE := isEmpty_of n h0
        rw [if_pos h0]
        go_enter Tryd.func58, Tryd.ntmps58
        go_wp2_with fail
        refine hA.mono ?_
        rintro e w2 ⟨rfl, hb2⟩
        simp only [dcode]
        obtain ⟨c0, c1, c2⟩ := Hb.out _ hb2
        go_wp2_with fail
        refine (HT.out _).mono ?_
        rintro e w3 ⟨rfl, hb3⟩
        have b4 := hb2.trans (hb3.mono hb2.size)
        clear c0 c1 c2
        obtain ⟨c0, c1, c2⟩ := Hb.out _ b4
        go_wp2
        go_ret
        exact ⟨rfl, hbA.trans (b4.mono hbA.size)⟩
      · have hE := isEmpty_ne n h0
        rw [if_neg h0]
        go_enter Tryd.func58, Tryd.ntmps58
        go_wp2_with fail
        refine hA.mono ?_
        rintro e w2 ⟨rfl, hb2⟩
        simp only [dcode]
        obtain ⟨c0, c1, c2⟩ := Hb.out _ hb2
        go_wp2_with fail
        refine (HT.out _).mono ?_
        rintro e w3 ⟨rfl, hb3⟩
        have b4 := hb2.trans (hb3.mono hb2.size)
        clear c0 c1 c2
        obtain ⟨c0, c1, c2⟩ := Hb.out _ b4
        have Hc := (show Hid (∀ w9, Below w3.heap.size w3 w9 → w9.cell? ⟨w.heap.size, 2, none⟩ = some (.string d)) from fun w9 h => (Hb.out _ (b4.trans (h.mono b4.size))).2.2)
        go_wp2
        go_region_with (go_at_call 61; (refine (HP.out _).mono ?_; rintro e w5 ⟨rfl, hb5⟩; have c5 := Hc.out w5 (((Below.refl w3.heap.size w3).drew).trans hb5)))
        all_goals
          go_wp2
          go_ret
          refine ⟨?_, hbA.trans ((b4.trans ((((Below.refl w3.heap.size w3).drew).trans hb5).mono b4.size)).mono hbA.size)⟩
          simp only [ByteArray.append_assoc]
          rfl
end Go.Proofs.YtillilllceeonaaDoor
