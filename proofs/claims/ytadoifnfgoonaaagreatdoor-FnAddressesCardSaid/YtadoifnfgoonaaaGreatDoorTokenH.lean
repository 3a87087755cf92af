
/- The walk of the program's scanner: a token. -/
import Derived.Test.YtadoifnfgoonaaaGreatDoorPhrasePlain
import Derived.Test.YtadoifnfgoonaaaGreatDoorPhraseTests
namespace Go.Proofs.YtadoifnfgoonaaaGreatDoor
open Go.RowKit Go.Lib
variable {R : List Value × TypeId}
set_option maxRecDepth 20000 in
theorem fold_no (l : List UInt8) (a : Nat) (h : (Pl.b l a == 13) = false) : Pl.fold l a = false := by
  unfold Pl.fold
  cases hc : Pl.crlf l a with
  | false => rfl
  | true =>
    have := (Pl.crlf_b l a hc).1
    rw [this] at h
    cases h
/-- A text whose bytes are no line end's. -/
def Clean (s : ByteArray) : Prop := ∀ i (h : i < s.size), (s[i] == 13) = false ∧ Pl.lb s[i] = true
set_option maxRecDepth 20000 in
theorem Clean.nofold {s : ByteArray} (h : Clean s) (a : Nat) : Pl.fold s.data.toList a = false := by
  refine fold_no _ _ ?_
  by_cases ha : a < s.size
  · rw [Pl.b_lt _ a (by simpa using ha)]
    exact (h a ha).1
  · unfold Pl.b
    rw [List.getD_eq_getElem?_getD, List.getElem?_eq_none (by simp; omega)]
    rfl
abbrev tok0 : Obj := .cells #[.int .i64 0, .string ⟨#[]⟩, .int .i64 0] 107
set_option maxRecDepth 20000 in
theorem tok_cells {w : World} {g : Nat} {a : Int} {t : ByteArray} {b : Int} {ty : TypeId} {z : Nat × Nat} (h : w.heap[g]? = some (.cells #[.int .i64 a, .string t, .int .i64 b] ty z)) :
    w.cell? ⟨g, 0, none⟩ = some (.int .i64 a) ∧ w.cell? ⟨g, 1, none⟩ = some (.string t) ∧ w.cell? ⟨g, 2, none⟩ = some (.int .i64 b) := by
  refine ⟨?_, ?_, ?_⟩ <;> simp [World.cell?, h]
set_option maxRecDepth 20000 in
set_option maxHeartbeats 4000000 in
theorem scTokEnd (g : Nat) (s : ByteArray) (a b : Nat) (w : World) (hs : s.size ≤ 100000) (hcl : Clean s) (ha : a ≤ s.size) (h : Sc R w g s a b) (hz : Pl.stop Pl.blank s.data.toList a = s.size) :
    Calls Tryz.prog 50 #[scp g] w fun e w' => e = .returned (.tuple #[.agg #[.int .i64 0, .string ⟨#[]⟩, .int .i64 0], .bool false]) ∧ Sc R w' g s s.size b ∧ w.grownBy w' (some g) := by
  have hgl := h.lt
  obtain ⟨W, hW⟩ : ∃ W, W = w.alloc tok0 := ⟨_, rfl⟩
  have hbW : Below w.heap.size w W := by rw [hW]; exact (Below.refl _ _).alloc (Nat.le_refl _) _
  have hr0 : W.heap[w.heap.size]? = some tok0 := by rw [hW]; exact hp_alloc w tok0
  have hP := scPass kindBlank g s a b W hs ha (h.below hbW)
  rw [hz] at hP
  have HF := (show Hid _ from fun (w : World) h => scFoldNo (R := R) g s s.size b w hs (Nat.le_refl _) h (hcl.nofold s.size))
  have HE := (show Hid _ from fun (w : World) h => scEnded (R := R) g s s.size b w h)
  clear h
  go_enter Tryz.func50, Tryz.ntmps50
  go_wp2
  refine wp_scope_once ?_
  go_wp2_with fail
  go_step3
  go_wp2_with fail
  rw [← hW]
  refine hP.mono ?_
  rintro e w1 ⟨rfl, s1, g1⟩
  have hr1 := (g1.block _ (hp_lt hr0) (by intro e; have := Option.some.inj e; omega)).trans hr0
  go_wp2_with fail
  refine (HF.out _ s1).mono ?_
  rintro e w2 ⟨rfl, hb2⟩
  have s2 := s1.below hb2
  have hr2 := (hb2.block _ (hp_lt hr1)).trans hr1
  go_wp2_with fail
  refine (HE.out _ s2).mono ?_
  rintro e w3 ⟨rfl, hb3⟩
  have s3 := s2.below hb3
  have hr3 : w3.heap[w.heap.size]? = some (.cells #[.int .i64 0, .string ⟨#[]⟩, .int .i64 0] 107 (0, 0)) := (hb3.block _ (hp_lt hr2)).trans hr2
  have G3 : w.grownBy w3 (some g) := grown_trans (grown_below hbW) (grown_trans g1 (grown_trans (grown_below hb2) (grown_below hb3)))
  rw [show ((s.size : Int) == (s.size : Int)) = true from by simp]
  clear hP HF HE hr0 hr1 hr2 s1 s2 g1 hb2 hb3 hbW hW
  go_wp2_with (first | (refine wpL_store_row rfl 107 _ _ rfl w.heap.size #[.int .i64 0, .string ⟨#[]⟩, .int .i64 0] rfl rfl 107 _ hr3 (by kernel_rfl) rfl (by simp [Value.oneCell']) ?_) | go_in)
  simp only [jumpN]
  have hh : (w3.setRow w.heap.size #[.int .i64 0, .string ⟨#[]⟩, .int .i64 0]).heap[w.heap.size]? = some (.cells #[.int .i64 0, .string ⟨#[]⟩, .int .i64 0] 107 (0, 0)) := setRow_heap _ _ _ _ _ _ hr3
  have hS : Sc R (w3.setRow w.heap.size #[.int .i64 0, .string ⟨#[]⟩, .int .i64 0]) g s s.size b := ⟨by rw [setRow_other w3 w.heap.size g _ (by omega)]; exact s3.blk⟩
  have hG : w.grownBy (w3.setRow w.heap.size #[.int .i64 0, .string ⟨#[]⟩, .int .i64 0]) (some g) := ⟨G3.os, G3.tape, G3.output, by simpa using G3.size, fun i hi hr => (setRow_other w3 _ i _ (by omega)).trans (G3.block i hi hr)⟩
  generalize w3.setRow w.heap.size #[.int .i64 0, .string ⟨#[]⟩, .int .i64 0] = V at hh hS hG
  obtain ⟨c0, c1, c2⟩ := tok_cells hh
  refine bodyPost_ret (v := .tuple #[.agg #[.int .i64 0, .string ⟨#[]⟩, .int .i64 0], .bool false]) (by simp [results, Tryz.results50, go_sem, c0, c1, c2]) rfl ?_
  exact ⟨rfl, hS, hG⟩
set_option maxRecDepth 20000 in
set_option maxHeartbeats 4000000 in
theorem scTokAtom (g : Nat) (s : ByteArray) (a b : Nat) (z : Nat) (w : World) (hs : s.size ≤ 100000) (hcl : Clean s) (ha : a ≤ s.size) (h : Sc R w g s a b) (hz : Pl.stop Pl.blank s.data.toList a = z) (hzs : z < s.size) (hat : Pl.atom s[z] = true) :
    Calls Tryz.prog 50 #[scp g] w fun e w' => e = .returned (.tuple #[.agg #[.int .i64 1, .string (s.extract z (Pl.stop Pl.atom s.data.toList z)), .int .i64 z], .bool true]) ∧ Sc R w' g s (Pl.stop Pl.atom s.data.toList z) z ∧ w.grownBy w' (some g) := by
  have hgl := h.lt
  obtain ⟨W, hW⟩ : ∃ W, W = w.alloc tok0 := ⟨_, rfl⟩
  have hbW : Below w.heap.size w W := by rw [hW]; exact (Below.refl _ _).alloc (Nat.le_refl _) _
  have hr0 : W.heap[w.heap.size]? = some tok0 := by rw [hW]; exact hp_alloc w tok0
  have hP := scPass kindBlank g s a b W hs ha (h.below hbW)
  rw [hz] at hP
  have hzl : z ≤ s.size := by omega
  have HF := (show Hid _ from fun (w : World) h => scFoldNo (R := R) g s z b w hs hzl h (hcl.nofold z))
  have HE := (show Hid _ from fun (w : World) h => scEnded (R := R) g s z b w h)
  have hne : ((z : Int) == (s.size : Int)) = false := by simp; omega
  have HBy := (show Hid _ from fun (w : World) h => scByteYes (R := R) g s z z w hs h hzs (hcl z hzs).2)
  have h8 : s[z].toNat < 256 := UInt8.toNat_lt _
  clear h
  have hA := fun w => implAtomByte s[z] w
  rw [hat] at hA
  have HPa := (show Hid _ from fun (w : World) h => scPass (R := R) kindAtom g s z z w hs hzl h)
  obtain ⟨Z, hZ⟩ : ∃ Z, Pl.stop Pl.atom s.data.toList z = Z := ⟨_, rfl⟩
  rw [hZ] at HPa ⊢
  clear hZ hat
  generalize hsk : s[z] = cz at *
  go_enter Tryz.func50, Tryz.ntmps50
  go_wp2
  refine wp_scope_once ?_
  go_wp2_with fail
  go_step3
  go_wp2_with fail
  rw [← hW]
  refine hP.mono ?_
  rintro e w1 ⟨rfl, s1, g1⟩
  have hr1 := (g1.block _ (hp_lt hr0) (by intro e; have := Option.some.inj e; omega)).trans hr0
  go_wp2_with fail
  refine (HF.out _ s1).mono ?_
  rintro e w2 ⟨rfl, hb2⟩
  have s2 := s1.below hb2
  have hr2 := (hb2.block _ (hp_lt hr1)).trans hr1
  go_wp2_with fail
  refine (HE.out _ s2).mono ?_
  rintro e w3 ⟨rfl, hb3⟩
  have s3 := s2.below hb3
  have hr3 : w3.heap[w.heap.size]? = some (.cells #[.int .i64 0, .string ⟨#[]⟩, .int .i64 0] 107 (0, 0)) := (hb3.block _ (hp_lt hr2)).trans hr2
  have G3 : w.grownBy w3 (some g) := grown_trans (grown_below hbW) (grown_trans g1 (grown_trans (grown_below hb2) (grown_below hb3)))
  rw [hne]
  clear hP HF HE hr0 hr1 hr2 s1 s2 g1 hb2 hb3 hbW hW hne
  have q1 := s3.c1
  have q2 := s3.c2
  have qf := s3.f2
  obtain ⟨c0, c1, c2⟩ := tok_cells hr3
  have cf : ∀ j, w3.frozen? ⟨w.heap.size, j, none⟩ = false := fun j => by simp [World.frozen?, hr3]
  obtain ⟨X, hX⟩ : ∃ X, X = (w3.setCell ⟨g, 2, none⟩ (.int .i64 (z : Int))).setCell ⟨w.heap.size, 2, none⟩ (.int .i64 (z : Int)) := ⟨_, rfl⟩
  have sX : Sc R X g s z z := by
    rw [hX]
    have := s3.set2 (z : Int) z rfl
    exact ⟨by simp [World.setCell, Array.getElem?_modify, s3.blk, show w.heap.size ≠ g by omega]⟩
  have rX : X.heap[w.heap.size]? = some (.cells #[.int .i64 0, .string ⟨#[]⟩, .int .i64 (z : Int)] 107 (0, 0)) := by
    rw [hX]; simp [World.setCell, Array.getElem?_modify, hr3, show g ≠ w.heap.size by omega]
  have GX : w.grownBy X (some g) := by
    rw [hX]
    refine ⟨G3.os, G3.tape, G3.output, by simpa [World.setCell] using G3.size, fun i hi hr => ?_⟩
    rw [← G3.block i hi hr]
    simp [World.setCell, Array.getElem?_modify, show w.heap.size ≠ i by omega, show g ≠ i from fun e => hr (by rw [e])]
  go_wp2_with fail
  rw [← hX]
  refine (HBy.out _ sX).mono ?_
  rintro e w4 ⟨rfl, s4, g4⟩
  have r4 := (g4.block _ (hp_lt rX) (by intro e; have := Option.some.inj e; omega)).trans rX
  have G4 : w.grownBy w4 (some g) := grown_trans GX g4
  clear hX q1 q2 qf c0 c1 c2 cf sX rX GX g4 HBy s3 hr3 G3
  go_wp2_with fail
  refine (hA _).mono ?_
  rintro e w5 ⟨rfl, rfl⟩
  clear hA
  go_wp2
  go_step3
  refine ⟨_, rfl, ?_⟩
  have q1 := s4.c1
  have q2 := s4.c2
  have qf := s4.f1
  have sY : Sc R (w4.setCell ⟨g, 1, none⟩ (.int .i64 (z : Int))) g s z z := s4.set1 (z : Int) z rfl
  have rY : (w4.setCell ⟨g, 1, none⟩ (.int .i64 (z : Int))).heap[w.heap.size]? = some (.cells #[.int .i64 0, .string ⟨#[]⟩, .int .i64 (z : Int)] 107 (0, 0)) := by
    simp [World.setCell, Array.getElem?_modify, r4, show g ≠ w.heap.size by omega]
  have GY : w.grownBy (w4.setCell ⟨g, 1, none⟩ (.int .i64 (z : Int))) (some g) := grown_trans G4 (grown_set w4 g 1 _)
  go_wp2_with fail
  refine (HPa.out _ sY).mono ?_
  rintro e w6 ⟨rfl, s6, g6⟩
  clear q1 q2 qf s4 r4 G4 HPa
  have r6 := (g6.block _ (hp_lt rY) (by intro e; have := Option.some.inj e; omega)).trans rY
  have G6 : w.grownBy w6 (some g) := grown_trans GY g6
  clear rY GY g6 sY
  obtain ⟨c0, c1, c2⟩ := tok_cells r6
  have cf : ∀ j, w6.frozen? ⟨w.heap.size, j, none⟩ = false := fun j => by simp [World.frozen?, r6]
  obtain ⟨Z6, hZ6⟩ : ∃ Z6, Z6 = (w6.setCell ⟨w.heap.size, 0, none⟩ (.int .i64 1)).setCell ⟨w.heap.size, 1, none⟩ (.string (s.extract z Z)) := ⟨_, rfl⟩
  have rZ : Z6.heap[w.heap.size]? = some (.cells #[.int .i64 1, .string (s.extract z Z), .int .i64 (z : Int)] 107 (0, 0)) := by
    rw [hZ6]; simp [World.setCell, Array.getElem?_modify, r6]
  have sZ : Sc R Z6 g s Z z := ⟨by rw [hZ6]; simp [World.setCell, Array.getElem?_modify, s6.blk, show w.heap.size ≠ g by omega]⟩
  have GZ : w.grownBy Z6 (some g) := by
    rw [hZ6]
    refine ⟨G6.os, G6.tape, G6.output, by simpa [World.setCell] using G6.size, fun i hi hr => ?_⟩
    rw [← G6.block i hi hr]
    simp [World.setCell, Array.getElem?_modify, show w.heap.size ≠ i by omega]
  have SZ := (show Hid _ from sZ)
  have GZ' := (show Hid _ from GZ)
  clear r6 G6 s6 sZ GZ
  subst hZ6
  go_wp2_with (first | (refine wpL_store_row rfl 107 _ _ rfl w.heap.size #[.int .i64 1, .string (s.extract z Z), .int .i64 (z : Int)] rfl rfl 107 _ rZ (by kernel_rfl) rfl (by simp [Value.oneCell']) ?_) | (refine wpL_load_row rfl 107 _ rfl w.heap.size _ 107 (0, 0) _ rfl rZ Tryz.underlying107 rfl (by kernel_rfl) ?_) | go_in)
  simp only [jumpN]
  have hh : (World.setRow ((w6.setCell ⟨w.heap.size, 0, none⟩ (.int .i64 1)).setCell ⟨w.heap.size, 1, none⟩ (.string (s.extract z Z))) w.heap.size #[.int .i64 1, .string (s.extract z Z), .int .i64 (z : Int)]).heap[w.heap.size]? = some (.cells #[.int .i64 1, .string (s.extract z Z), .int .i64 (z : Int)] 107 (0, 0)) := setRow_heap _ _ _ _ _ _ rZ
  have hS : Sc R (World.setRow ((w6.setCell ⟨w.heap.size, 0, none⟩ (.int .i64 1)).setCell ⟨w.heap.size, 1, none⟩ (.string (s.extract z Z))) w.heap.size #[.int .i64 1, .string (s.extract z Z), .int .i64 (z : Int)]) g s Z z := ⟨(setRow_other _ w.heap.size g _ (by omega)).trans SZ.out.blk⟩
  have hG : w.grownBy (World.setRow ((w6.setCell ⟨w.heap.size, 0, none⟩ (.int .i64 1)).setCell ⟨w.heap.size, 1, none⟩ (.string (s.extract z Z))) w.heap.size #[.int .i64 1, .string (s.extract z Z), .int .i64 (z : Int)]) (some g) := ⟨GZ'.out.os, GZ'.out.tape, GZ'.out.output, by simpa using GZ'.out.size, fun i hi hr => (setRow_other _ w.heap.size i _ (by omega)).trans (GZ'.out.block i hi hr)⟩
  generalize World.setRow ((w6.setCell ⟨w.heap.size, 0, none⟩ (.int .i64 1)).setCell ⟨w.heap.size, 1, none⟩ (.string (s.extract z Z))) w.heap.size #[.int .i64 1, .string (s.extract z Z), .int .i64 (z : Int)] = V at hh hS hG
  obtain ⟨d0, d1, d2⟩ := tok_cells hh
  refine bodyPost_ret (v := .tuple #[.agg #[.int .i64 1, .string (s.extract z Z), .int .i64 (z : Int)], .bool true]) (by simp [results, Tryz.results50, go_sem, d0, d1, d2]) rfl ?_
  exact ⟨rfl, hS, hG⟩
/-- The specials that stand for themselves. -/
def spB (c : UInt8) : Bool := c == 44 || c == 58 || c == 59 || c == 60 || c == 62 || c == 64 || c == 46
set_option maxRecDepth 20000 in
theorem spB_cases (c : UInt8) (h : spB c = true) : c = 44 ∨ c = 58 ∨ c = 59 ∨ c = 60 ∨ c = 62 ∨ c = 64 ∨ c = 46 := by
  unfold spB at h
  simpa [or_assoc] using h
set_option maxRecDepth 20000 in
theorem implSpecial (c : UInt8) (w : World) (hc : spB c = true) : Calls Tryz.prog 78 #[.int .u8 (c.toNat : Int)] w fun e w' => e = .returned (.bool true) ∧ w = w' := by
  have hx : ∀ w, Calls Tryz.prog 97 #[.string ⟨#[60, 62, 64, 44, 59, 58, 46, 41, 93, 92]⟩, .int .u8 (c.toNat : Int)] w fun e w' => (∃ k : Nat, k < 20 ∧ e = .returned (.int .i64 (k : Int))) ∧ w = w' := by
    intro w
    refine (Tryz.strings_IndexByte _ _ w).mono ?_
    rintro e w' ⟨rfl, rfl⟩
    refine ⟨?_, rfl⟩
    rcases spB_cases c hc with rfl | rfl | rfl | rfl | rfl | rfl | rfl
    · exact ⟨3, by omega, rfl⟩
    · exact ⟨5, by omega, rfl⟩
    · exact ⟨4, by omega, rfl⟩
    · exact ⟨0, by omega, rfl⟩
    · exact ⟨1, by omega, rfl⟩
    · exact ⟨2, by omega, rfl⟩
    · exact ⟨6, by omega, rfl⟩
  go_enter Tryz.func78, Tryz.ntmps78
  go_wp2_with (first | (go_at_call 97; go_must (refine (hx _).mono ?_; rintro e w2 ⟨⟨k, hk, rfl⟩, rfl⟩)))
  go_ret
  exact ⟨rfl, rfl⟩
set_option maxRecDepth 20000 in
set_option maxHeartbeats 4000000 in
theorem scTokSpecial (g : Nat) (s : ByteArray) (a b : Nat) (z : Nat) (w : World) (hs : s.size ≤ 100000) (hcl : Clean s) (ha : a ≤ s.size) (h : Sc R w g s a b) (hz : Pl.stop Pl.blank s.data.toList a = z) (hzs : z < s.size) (hsp : spB s[z] = true) :
    Calls Tryz.prog 50 #[scp g] w fun e w' => e = .returned (.tuple #[.agg #[.int .i64 5, .string (s.extract z (z + 1)), .int .i64 z], .bool true]) ∧ Sc R w' g s (z + 1) z ∧ w.grownBy w' (some g) := by
  have hgl := h.lt
  obtain ⟨W, hW⟩ : ∃ W, W = w.alloc tok0 := ⟨_, rfl⟩
  have hbW : Below w.heap.size w W := by rw [hW]; exact (Below.refl _ _).alloc (Nat.le_refl _) _
  have hr0 : W.heap[w.heap.size]? = some tok0 := by rw [hW]; exact hp_alloc w tok0
  have hP := scPass kindBlank g s a b W hs ha (h.below hbW)
  rw [hz] at hP
  have hzl : z ≤ s.size := by omega
  have HF := (show Hid _ from fun (w : World) h => scFoldNo (R := R) g s z b w hs hzl h (hcl.nofold z))
  have HE := (show Hid _ from fun (w : World) h => scEnded (R := R) g s z b w h)
  have hne : ((z : Int) == (s.size : Int)) = false := by simp; omega
  have HBy := (show Hid _ from fun (w : World) h => scByteYes (R := R) g s z z w hs h hzs (hcl z hzs).2)
  have h8 : s[z].toNat < 256 := UInt8.toNat_lt _
  clear h
  have hA : ∀ w, Calls Tryz.prog 66 #[.int .u8 (s[z].toNat : Int)] w fun e w' => e = .returned (.bool false) ∧ w = w' := by
    intro w
    have := implAtomByte s[z] w
    rwa [show Pl.atom s[z] = false from by rcases spB_cases _ hsp with e | e | e | e | e | e | e <;> rw [e] <;> decide +kernel] at this
  have hSp : ∀ w, Calls Tryz.prog 78 #[.int .u8 (s[z].toNat : Int)] w fun e w' => e = .returned (.bool true) ∧ w = w' := by
    intro w
    exact implSpecial _ w hsp
  have hq1 : (s[z].toNat == 34) = false := by rcases spB_cases _ hsp with e | e | e | e | e | e | e <;> rw [e] <;> rfl
  have hq2 : (s[z].toNat == 91) = false := by rcases spB_cases _ hsp with e | e | e | e | e | e | e <;> rw [e] <;> rfl
  have hq3 : (s[z].toNat == 40) = false := by rcases spB_cases _ hsp with e | e | e | e | e | e | e <;> rw [e] <;> rfl
  clear hsp
  generalize hsk : s[z] = cz at *
  go_enter Tryz.func50, Tryz.ntmps50
  go_wp2
  refine wp_scope_once ?_
  go_wp2_with fail
  go_step3
  go_wp2_with fail
  rw [← hW]
  refine hP.mono ?_
  rintro e w1 ⟨rfl, s1, g1⟩
  have hr1 := (g1.block _ (hp_lt hr0) (by intro e; have := Option.some.inj e; omega)).trans hr0
  go_wp2_with fail
  refine (HF.out _ s1).mono ?_
  rintro e w2 ⟨rfl, hb2⟩
  have s2 := s1.below hb2
  have hr2 := (hb2.block _ (hp_lt hr1)).trans hr1
  go_wp2_with fail
  refine (HE.out _ s2).mono ?_
  rintro e w3 ⟨rfl, hb3⟩
  have s3 := s2.below hb3
  have hr3 : w3.heap[w.heap.size]? = some (.cells #[.int .i64 0, .string ⟨#[]⟩, .int .i64 0] 107 (0, 0)) := (hb3.block _ (hp_lt hr2)).trans hr2
  have G3 : w.grownBy w3 (some g) := grown_trans (grown_below hbW) (grown_trans g1 (grown_trans (grown_below hb2) (grown_below hb3)))
  rw [hne]
  clear hP HF HE hr0 hr1 hr2 s1 s2 g1 hb2 hb3 hbW hW hne
  have q1 := s3.c1
  have q2 := s3.c2
  have qf := s3.f2
  obtain ⟨c0, c1, c2⟩ := tok_cells hr3
  have cf : ∀ j, w3.frozen? ⟨w.heap.size, j, none⟩ = false := fun j => by simp [World.frozen?, hr3]
  obtain ⟨X, hX⟩ : ∃ X, X = (w3.setCell ⟨g, 2, none⟩ (.int .i64 (z : Int))).setCell ⟨w.heap.size, 2, none⟩ (.int .i64 (z : Int)) := ⟨_, rfl⟩
  have sX : Sc R X g s z z := by
    rw [hX]
    have := s3.set2 (z : Int) z rfl
    exact ⟨by simp [World.setCell, Array.getElem?_modify, s3.blk, show w.heap.size ≠ g by omega]⟩
  have rX : X.heap[w.heap.size]? = some (.cells #[.int .i64 0, .string ⟨#[]⟩, .int .i64 (z : Int)] 107 (0, 0)) := by
    rw [hX]; simp [World.setCell, Array.getElem?_modify, hr3, show g ≠ w.heap.size by omega]
  have GX : w.grownBy X (some g) := by
    rw [hX]
    refine ⟨G3.os, G3.tape, G3.output, by simpa [World.setCell] using G3.size, fun i hi hr => ?_⟩
    rw [← G3.block i hi hr]
    simp [World.setCell, Array.getElem?_modify, show w.heap.size ≠ i by omega, show g ≠ i from fun e => hr (by rw [e])]
  go_wp2_with fail
  rw [← hX]
  refine (HBy.out _ sX).mono ?_
  rintro e w4 ⟨rfl, s4, g4⟩
  have r4 := (g4.block _ (hp_lt rX) (by intro e; have := Option.some.inj e; omega)).trans rX
  have G4 : w.grownBy w4 (some g) := grown_trans GX g4
  clear hX q1 q2 qf c0 c1 c2 cf sX rX GX g4 HBy s3 hr3 G3
  go_wp2_with fail
  refine (hA _).mono ?_
  rintro e w5 ⟨rfl, rfl⟩
  clear hA
  go_wp2_with fail
  refine (hSp _).mono ?_
  rintro e w6 ⟨rfl, rfl⟩
  clear hSp
  go_wp2
  go_step3
  refine ⟨_, rfl, ?_⟩
  have c0 := s4.c0
  have c1 := s4.c1
  have c2 := s4.c2
  have k0 := cell_regrown c0
  have k1 := cell_regrown c1
  have k2 := cell_regrown c2
  have f1 : ((z + 1 : Nat) : Int) ≤ (s.size : Int) := by omega
  have f2 : (z : Int) ≤ ((z + 1 : Nat) : Int) := by omega
  have cL : ∀ d os, Calls Tryz.prog 61 #[.string (s.extract z (z + 1))] (Go.Sort.grow (redrawn w4 d) os) fun e w'' => e = .returned (.string (s.extract z (z + 1))) ∧ ∃ p : Regrown, w'' = Go.Sort.grow (redrawn w4 p.d) p.os := fun d os => Calls.regrown_of (libClone _ _ (by rw [ByteArray.size_extract]; omega))
  go_wp2
  refine wp_region_any (by kernel_rfl) ?_
  refine wpAny_take (i := 0) (v := .pointer (some ⟨g, 0, none⟩)) rfl (by kernel_rfl) (by kernel_rfl) (by kernel_rfl) (fun _ _ _ h => h) (Or.inl ⟨by rfl, ?_⟩) ?_
  · intro w
    go_simp
  go_simp
  refine wpAny_take (i := 1) (v := .pointer (some ⟨g, 0, none⟩)) rfl (by kernel_rfl) (by kernel_rfl) (by kernel_rfl) (fun _ _ _ h => h) (Or.inl ⟨by rfl, ?_⟩) ?_
  · intro w
    go_simp
  go_simp
  refine wpAny_take (i := 2) (v := .pointer (some ⟨g, 0, none⟩)) rfl (by kernel_rfl) (by kernel_rfl) (by kernel_rfl) (fun _ _ _ h => h) (Or.inl ⟨by rfl, ?_⟩) ?_
  · intro w
    go_simp
  go_simp
  refine wpAny_take (i := 4) (v := .pointer (some ⟨g, 0, none⟩)) rfl (by kernel_rfl) (by kernel_rfl) (by kernel_rfl) (fun _ _ _ h => h) (Or.inl ⟨by rfl, ?_⟩) ?_
  · intro w
    go_simp
  go_simp
  refine wpAny_take (i := 5) (v := .pointer (some ⟨g, 0, none⟩)) rfl (by kernel_rfl) (by kernel_rfl) (by kernel_rfl) (fun _ _ _ h => h) (Or.inl ⟨by rfl, ?_⟩) ?_
  · intro w
    go_simp
  go_simp
  refine wpAny_take (i := 6) (v := .pointer (some ⟨g, 2, none⟩)) rfl (by kernel_rfl) (by kernel_rfl) (by kernel_rfl) (fun _ _ _ h => h) (Or.inl ⟨by rfl, ?_⟩) ?_
  · intro w
    go_simp
  go_simp
  refine wpAny_take (i := 8) (v := .pointer (some ⟨g, 0, none⟩)) rfl (by kernel_rfl) (by kernel_rfl) (by kernel_rfl) (fun _ _ _ h => h) (Or.inl ⟨by rfl, ?_⟩) ?_
  · intro w
    go_simp
  go_simp
  refine wpAny_take (i := 9) (v := .pointer (some ⟨g, 0, none⟩)) rfl (by kernel_rfl) (by kernel_rfl) (by kernel_rfl) (fun _ _ _ h => h) (Or.inl ⟨by rfl, ?_⟩) ?_
  · intro w
    go_simp
  go_simp
  refine wpAny_take (i := 10) (v := .pointer (some ⟨g, 1, none⟩)) rfl (by kernel_rfl) (by kernel_rfl) (by kernel_rfl) (fun _ _ _ h => h) (Or.inl ⟨by rfl, ?_⟩) ?_
  · intro w
    go_simp
  go_simp
  refine wpAny_take (i := 14) (v := .pointer (some ⟨w.heap.size, 0, none⟩)) rfl (by kernel_rfl) (by kernel_rfl) (by kernel_rfl) (fun _ _ _ h => h) (Or.inl ⟨by rfl, ?_⟩) ?_
  · intro w
    go_simp
  go_simp
  refine wpAny_ready (rs := [3, 7, 11]) (by kernel_rfl) (by simp) ?_
  refine AllReady.cons rfl (fun K hK => ?_) (AllReady.cons rfl (fun K hK => ?_) (AllReady.cons rfl (fun K hK => ?_) AllReady.nil))
  · go_simp
    refine hK _ _ ?_
    clear hK K
    go_simp
    refine wpAny_ready (rs := [7, 11]) (by kernel_rfl) (by simp) ?_
    refine AllReady.cons rfl (fun K hK => ?_) (AllReady.cons rfl (fun K hK => ?_) AllReady.nil)
    · go_simp
      refine hK _ _ ?_
      clear hK K
      go_simp
      refine wpAny_ready (rs := [11]) (by kernel_rfl) (by simp) ?_
      refine AllReady.cons rfl (fun K hK => ?_) AllReady.nil
      · go_simp
        refine hK _ _ ?_
        clear hK K
        go_simp
        refine wpAny_take (i := 12) (v := .string (s.extract z (z + 1))) rfl (by kernel_rfl) (by kernel_rfl) (by kernel_rfl) (fun _ _ _ h => h) (Or.inl ⟨by rfl, ?_⟩) ?_
        · intro w
          go_simp
          rw [if_pos (by omega), if_pos (by omega)]
        go_simp
        refine wpAny_ready (rs := [13]) (by kernel_rfl) (by simp) ?_
        refine AllReady.cons rfl (fun K hK => ?_) AllReady.nil
        go_simp
        refine (libClone _ _ (by rw [ByteArray.size_extract]; omega)).mono ?_
        rintro e w6 ⟨rfl, hb6⟩
        have hb6 : Below w4.heap.size w4 w6 := Below.trans (Below.refl _ _).drew hb6
        have s6 := s4.below hb6
        have r6 := (hb6.block _ (hp_lt r4)).trans r4
        have G6 : w.grownBy w6 (some g) := grown_trans G4 (grown_below hb6)
        clear s4 r4 G4 c0 c1 c2 k0 k1 k2 cL hb6
        obtain ⟨c0, c1, c2⟩ := tok_cells r6
        have cf : ∀ j, w6.frozen? ⟨w.heap.size, j, none⟩ = false := fun j => by simp [World.frozen?, r6]
        go_simp
        refine hK _ _ ?_
        clear hK K
        go_simp
        refine wpAny_ready (rs := [15]) (by kernel_rfl) (by simp) ?_
        refine AllReady.cons rfl (fun K hK => ?_) AllReady.nil
        go_simp
        refine hK _ _ ?_
        clear hK K
        go_simp
        refine wpAny_take (i := 16) (v := .pointer (some ⟨w.heap.size, 1, none⟩)) rfl (by kernel_rfl) (by kernel_rfl) (by kernel_rfl) (fun _ _ _ h => h) (Or.inl ⟨by rfl, ?_⟩) ?_
        · intro w
          go_simp
        go_simp
        refine wpAny_ready (rs := [17]) (by kernel_rfl) (by simp) ?_
        refine AllReady.cons rfl (fun K hK => ?_) AllReady.nil
        go_simp
        refine hK _ _ ?_
        clear hK K
        go_simp
        refine wpAny_done (by kernel_rfl) ?_ _
        obtain ⟨Z6, hZ6⟩ : ∃ Z6, Z6 = (w6.setCell ⟨w.heap.size, 0, none⟩ (.int .i64 5)).setCell ⟨w.heap.size, 1, none⟩ (.string (s.extract z (z + 1))) := ⟨_, rfl⟩
        have rZ : Z6.heap[w.heap.size]? = some (.cells #[.int .i64 5, .string (s.extract z (z + 1)), .int .i64 (z : Int)] 107 (0, 0)) := by
          rw [hZ6]; simp [World.setCell, Array.getElem?_modify, r6]
        have sZ : Sc R Z6 g s (z + 1) z := ⟨by rw [hZ6]; simp [World.setCell, Array.getElem?_modify, s6.blk, show w.heap.size ≠ g by omega]⟩
        have GZ : w.grownBy Z6 (some g) := by
          rw [hZ6]
          refine ⟨G6.os, G6.tape, G6.output, by simpa [World.setCell] using G6.size, fun i hi hr => ?_⟩
          rw [← G6.block i hi hr]
          simp [World.setCell, Array.getElem?_modify, show w.heap.size ≠ i by omega]
        have SZ := (show Hid _ from sZ)
        have GZ' := (show Hid _ from GZ)
        clear r6 G6 s6 sZ GZ
        subst hZ6
        go_wp2_with (first | (refine wpL_store_row rfl 107 _ _ rfl w.heap.size #[.int .i64 5, .string (s.extract z (z + 1)), .int .i64 (z : Int)] rfl rfl 107 _ rZ (by kernel_rfl) rfl (by simp [Value.oneCell']) ?_) | (refine wpL_load_row rfl 107 _ rfl w.heap.size _ 107 (0, 0) _ rfl rZ Tryz.underlying107 rfl (by kernel_rfl) ?_) | go_in)
        simp only [jumpN]
        have hh : (World.setRow ((w6.setCell ⟨w.heap.size, 0, none⟩ (.int .i64 5)).setCell ⟨w.heap.size, 1, none⟩ (.string (s.extract z (z + 1)))) w.heap.size #[.int .i64 5, .string (s.extract z (z + 1)), .int .i64 (z : Int)]).heap[w.heap.size]? = some (.cells #[.int .i64 5, .string (s.extract z (z + 1)), .int .i64 (z : Int)] 107 (0, 0)) := setRow_heap _ _ _ _ _ _ rZ
        have hS : Sc R (World.setRow ((w6.setCell ⟨w.heap.size, 0, none⟩ (.int .i64 5)).setCell ⟨w.heap.size, 1, none⟩ (.string (s.extract z (z + 1)))) w.heap.size #[.int .i64 5, .string (s.extract z (z + 1)), .int .i64 (z : Int)]) g s (z + 1) z := ⟨(setRow_other _ w.heap.size g _ (by omega)).trans SZ.out.blk⟩
        have hG : w.grownBy (World.setRow ((w6.setCell ⟨w.heap.size, 0, none⟩ (.int .i64 5)).setCell ⟨w.heap.size, 1, none⟩ (.string (s.extract z (z + 1)))) w.heap.size #[.int .i64 5, .string (s.extract z (z + 1)), .int .i64 (z : Int)]) (some g) := ⟨GZ'.out.os, GZ'.out.tape, GZ'.out.output, by simpa using GZ'.out.size, fun i hi hr => (setRow_other _ w.heap.size i _ (by omega)).trans (GZ'.out.block i hi hr)⟩
        generalize World.setRow ((w6.setCell ⟨w.heap.size, 0, none⟩ (.int .i64 5)).setCell ⟨w.heap.size, 1, none⟩ (.string (s.extract z (z + 1)))) w.heap.size #[.int .i64 5, .string (s.extract z (z + 1)), .int .i64 (z : Int)] = V at hh hS hG
        obtain ⟨d0, d1, d2⟩ := tok_cells hh
        refine bodyPost_ret (v := .tuple #[.agg #[.int .i64 5, .string (s.extract z (z + 1)), .int .i64 (z : Int)], .bool true]) (by simp [results, Tryz.results50, go_sem, d0, d1, d2]) rfl ?_
        exact ⟨rfl, hS, hG⟩
    · go_simp
      refine hK _ _ ?_
      clear hK K
      go_simp
      refine wpAny_ready (rs := [7]) (by kernel_rfl) (by simp) ?_
      refine AllReady.cons rfl (fun K hK => ?_) AllReady.nil
      · go_simp
        refine hK _ _ ?_
        clear hK K
        go_simp
        refine wpAny_take (i := 12) (v := .string (s.extract z (z + 1))) rfl (by kernel_rfl) (by kernel_rfl) (by kernel_rfl) (fun _ _ _ h => h) (Or.inl ⟨by rfl, ?_⟩) ?_
        · intro w
          go_simp
          rw [if_pos (by omega), if_pos (by omega)]
        go_simp
        refine wpAny_ready (rs := [13]) (by kernel_rfl) (by simp) ?_
        refine AllReady.cons rfl (fun K hK => ?_) AllReady.nil
        go_simp
        refine (libClone _ _ (by rw [ByteArray.size_extract]; omega)).mono ?_
        rintro e w6 ⟨rfl, hb6⟩
        have hb6 : Below w4.heap.size w4 w6 := Below.trans (Below.refl _ _).drew hb6
        have s6 := s4.below hb6
        have r6 := (hb6.block _ (hp_lt r4)).trans r4
        have G6 : w.grownBy w6 (some g) := grown_trans G4 (grown_below hb6)
        clear s4 r4 G4 c0 c1 c2 k0 k1 k2 cL hb6
        obtain ⟨c0, c1, c2⟩ := tok_cells r6
        have cf : ∀ j, w6.frozen? ⟨w.heap.size, j, none⟩ = false := fun j => by simp [World.frozen?, r6]
        go_simp
        refine hK _ _ ?_
        clear hK K
        go_simp
        refine wpAny_ready (rs := [15]) (by kernel_rfl) (by simp) ?_
        refine AllReady.cons rfl (fun K hK => ?_) AllReady.nil
        go_simp
        refine hK _ _ ?_
        clear hK K
        go_simp
        refine wpAny_take (i := 16) (v := .pointer (some ⟨w.heap.size, 1, none⟩)) rfl (by kernel_rfl) (by kernel_rfl) (by kernel_rfl) (fun _ _ _ h => h) (Or.inl ⟨by rfl, ?_⟩) ?_
        · intro w
          go_simp
        go_simp
        refine wpAny_ready (rs := [17]) (by kernel_rfl) (by simp) ?_
        refine AllReady.cons rfl (fun K hK => ?_) AllReady.nil
        go_simp
        refine hK _ _ ?_
        clear hK K
        go_simp
        refine wpAny_done (by kernel_rfl) ?_ _
        obtain ⟨Z6, hZ6⟩ : ∃ Z6, Z6 = (w6.setCell ⟨w.heap.size, 0, none⟩ (.int .i64 5)).setCell ⟨w.heap.size, 1, none⟩ (.string (s.extract z (z + 1))) := ⟨_, rfl⟩
        have rZ : Z6.heap[w.heap.size]? = some (.cells #[.int .i64 5, .string (s.extract z (z + 1)), .int .i64 (z : Int)] 107 (0, 0)) := by
          rw [hZ6]; simp [World.setCell, Array.getElem?_modify, r6]
        have sZ : Sc R Z6 g s (z + 1) z := ⟨by rw [hZ6]; simp [World.setCell, Array.getElem?_modify, s6.blk, show w.heap.size ≠ g by omega]⟩
        have GZ : w.grownBy Z6 (some g) := by
          rw [hZ6]
          refine ⟨G6.os, G6.tape, G6.output, by simpa [World.setCell] using G6.size, fun i hi hr => ?_⟩
          rw [← G6.block i hi hr]
          simp [World.setCell, Array.getElem?_modify, show w.heap.size ≠ i by omega]
        have SZ := (show Hid _ from sZ)
        have GZ' := (show Hid _ from GZ)
        clear r6 G6 s6 sZ GZ
        subst hZ6
        go_wp2_with (first | (refine wpL_store_row rfl 107 _ _ rfl w.heap.size #[.int .i64 5, .string (s.extract z (z + 1)), .int .i64 (z : Int)] rfl rfl 107 _ rZ (by kernel_rfl) rfl (by simp [Value.oneCell']) ?_) | (refine wpL_load_row rfl 107 _ rfl w.heap.size _ 107 (0, 0) _ rfl rZ Tryz.underlying107 rfl (by kernel_rfl) ?_) | go_in)
        simp only [jumpN]
        have hh : (World.setRow ((w6.setCell ⟨w.heap.size, 0, none⟩ (.int .i64 5)).setCell ⟨w.heap.size, 1, none⟩ (.string (s.extract z (z + 1)))) w.heap.size #[.int .i64 5, .string (s.extract z (z + 1)), .int .i64 (z : Int)]).heap[w.heap.size]? = some (.cells #[.int .i64 5, .string (s.extract z (z + 1)), .int .i64 (z : Int)] 107 (0, 0)) := setRow_heap _ _ _ _ _ _ rZ
        have hS : Sc R (World.setRow ((w6.setCell ⟨w.heap.size, 0, none⟩ (.int .i64 5)).setCell ⟨w.heap.size, 1, none⟩ (.string (s.extract z (z + 1)))) w.heap.size #[.int .i64 5, .string (s.extract z (z + 1)), .int .i64 (z : Int)]) g s (z + 1) z := ⟨(setRow_other _ w.heap.size g _ (by omega)).trans SZ.out.blk⟩
        have hG : w.grownBy (World.setRow ((w6.setCell ⟨w.heap.size, 0, none⟩ (.int .i64 5)).setCell ⟨w.heap.size, 1, none⟩ (.string (s.extract z (z + 1)))) w.heap.size #[.int .i64 5, .string (s.extract z (z + 1)), .int .i64 (z : Int)]) (some g) := ⟨GZ'.out.os, GZ'.out.tape, GZ'.out.output, by simpa using GZ'.out.size, fun i hi hr => (setRow_other _ w.heap.size i _ (by omega)).trans (GZ'.out.block i hi hr)⟩
        generalize World.setRow ((w6.setCell ⟨w.heap.size, 0, none⟩ (.int .i64 5)).setCell ⟨w.heap.size, 1, none⟩ (.string (s.extract z (z + 1)))) w.heap.size #[.int .i64 5, .string (s.extract z (z + 1)), .int .i64 (z : Int)] = V at hh hS hG
        obtain ⟨d0, d1, d2⟩ := tok_cells hh
        refine bodyPost_ret (v := .tuple #[.agg #[.int .i64 5, .string (s.extract z (z + 1)), .int .i64 (z : Int)], .bool true]) (by simp [results, Tryz.results50, go_sem, d0, d1, d2]) rfl ?_
        exact ⟨rfl, hS, hG⟩
  · go_simp
    refine hK _ _ ?_
    clear hK K
    go_simp
    refine wpAny_ready (rs := [3, 11]) (by kernel_rfl) (by simp) ?_
    refine AllReady.cons rfl (fun K hK => ?_) (AllReady.cons rfl (fun K hK => ?_) AllReady.nil)
    · go_simp
      refine hK _ _ ?_
      clear hK K
      go_simp
      refine wpAny_ready (rs := [11]) (by kernel_rfl) (by simp) ?_
      refine AllReady.cons rfl (fun K hK => ?_) AllReady.nil
      · go_simp
        refine hK _ _ ?_
        clear hK K
        go_simp
        refine wpAny_take (i := 12) (v := .string (s.extract z (z + 1))) rfl (by kernel_rfl) (by kernel_rfl) (by kernel_rfl) (fun _ _ _ h => h) (Or.inl ⟨by rfl, ?_⟩) ?_
        · intro w
          go_simp
          rw [if_pos (by omega), if_pos (by omega)]
        go_simp
        refine wpAny_ready (rs := [13]) (by kernel_rfl) (by simp) ?_
        refine AllReady.cons rfl (fun K hK => ?_) AllReady.nil
        go_simp
        refine (libClone _ _ (by rw [ByteArray.size_extract]; omega)).mono ?_
        rintro e w6 ⟨rfl, hb6⟩
        have hb6 : Below w4.heap.size w4 w6 := Below.trans (Below.refl _ _).drew hb6
        have s6 := s4.below hb6
        have r6 := (hb6.block _ (hp_lt r4)).trans r4
        have G6 : w.grownBy w6 (some g) := grown_trans G4 (grown_below hb6)
        clear s4 r4 G4 c0 c1 c2 k0 k1 k2 cL hb6
        obtain ⟨c0, c1, c2⟩ := tok_cells r6
        have cf : ∀ j, w6.frozen? ⟨w.heap.size, j, none⟩ = false := fun j => by simp [World.frozen?, r6]
        go_simp
        refine hK _ _ ?_
        clear hK K
        go_simp
        refine wpAny_ready (rs := [15]) (by kernel_rfl) (by simp) ?_
        refine AllReady.cons rfl (fun K hK => ?_) AllReady.nil
        go_simp
        refine hK _ _ ?_
        clear hK K
        go_simp
        refine wpAny_take (i := 16) (v := .pointer (some ⟨w.heap.size, 1, none⟩)) rfl (by kernel_rfl) (by kernel_rfl) (by kernel_rfl) (fun _ _ _ h => h) (Or.inl ⟨by rfl, ?_⟩) ?_
        · intro w
          go_simp
        go_simp
        refine wpAny_ready (rs := [17]) (by kernel_rfl) (by simp) ?_
        refine AllReady.cons rfl (fun K hK => ?_) AllReady.nil
        go_simp
        refine hK _ _ ?_
        clear hK K
        go_simp
        refine wpAny_done (by kernel_rfl) ?_ _
        obtain ⟨Z6, hZ6⟩ : ∃ Z6, Z6 = (w6.setCell ⟨w.heap.size, 0, none⟩ (.int .i64 5)).setCell ⟨w.heap.size, 1, none⟩ (.string (s.extract z (z + 1))) := ⟨_, rfl⟩
        have rZ : Z6.heap[w.heap.size]? = some (.cells #[.int .i64 5, .string (s.extract z (z + 1)), .int .i64 (z : Int)] 107 (0, 0)) := by
          rw [hZ6]; simp [World.setCell, Array.getElem?_modify, r6]
        have sZ : Sc R Z6 g s (z + 1) z := ⟨by rw [hZ6]; simp [World.setCell, Array.getElem?_modify, s6.blk, show w.heap.size ≠ g by omega]⟩
        have GZ : w.grownBy Z6 (some g) := by
          rw [hZ6]
          refine ⟨G6.os, G6.tape, G6.output, by simpa [World.setCell] using G6.size, fun i hi hr => ?_⟩
          rw [← G6.block i hi hr]
          simp [World.setCell, Array.getElem?_modify, show w.heap.size ≠ i by omega]
        have SZ := (show Hid _ from sZ)
        have GZ' := (show Hid _ from GZ)
        clear r6 G6 s6 sZ GZ
        subst hZ6
        go_wp2_with (first | (refine wpL_store_row rfl 107 _ _ rfl w.heap.size #[.int .i64 5, .string (s.extract z (z + 1)), .int .i64 (z : Int)] rfl rfl 107 _ rZ (by kernel_rfl) rfl (by simp [Value.oneCell']) ?_) | (refine wpL_load_row rfl 107 _ rfl w.heap.size _ 107 (0, 0) _ rfl rZ Tryz.underlying107 rfl (by kernel_rfl) ?_) | go_in)
        simp only [jumpN]
        have hh : (World.setRow ((w6.setCell ⟨w.heap.size, 0, none⟩ (.int .i64 5)).setCell ⟨w.heap.size, 1, none⟩ (.string (s.extract z (z + 1)))) w.heap.size #[.int .i64 5, .string (s.extract z (z + 1)), .int .i64 (z : Int)]).heap[w.heap.size]? = some (.cells #[.int .i64 5, .string (s.extract z (z + 1)), .int .i64 (z : Int)] 107 (0, 0)) := setRow_heap _ _ _ _ _ _ rZ
        have hS : Sc R (World.setRow ((w6.setCell ⟨w.heap.size, 0, none⟩ (.int .i64 5)).setCell ⟨w.heap.size, 1, none⟩ (.string (s.extract z (z + 1)))) w.heap.size #[.int .i64 5, .string (s.extract z (z + 1)), .int .i64 (z : Int)]) g s (z + 1) z := ⟨(setRow_other _ w.heap.size g _ (by omega)).trans SZ.out.blk⟩
        have hG : w.grownBy (World.setRow ((w6.setCell ⟨w.heap.size, 0, none⟩ (.int .i64 5)).setCell ⟨w.heap.size, 1, none⟩ (.string (s.extract z (z + 1)))) w.heap.size #[.int .i64 5, .string (s.extract z (z + 1)), .int .i64 (z : Int)]) (some g) := ⟨GZ'.out.os, GZ'.out.tape, GZ'.out.output, by simpa using GZ'.out.size, fun i hi hr => (setRow_other _ w.heap.size i _ (by omega)).trans (GZ'.out.block i hi hr)⟩
        generalize World.setRow ((w6.setCell ⟨w.heap.size, 0, none⟩ (.int .i64 5)).setCell ⟨w.heap.size, 1, none⟩ (.string (s.extract z (z + 1)))) w.heap.size #[.int .i64 5, .string (s.extract z (z + 1)), .int .i64 (z : Int)] = V at hh hS hG
        obtain ⟨d0, d1, d2⟩ := tok_cells hh
        refine bodyPost_ret (v := .tuple #[.agg #[.int .i64 5, .string (s.extract z (z + 1)), .int .i64 (z : Int)], .bool true]) (by simp [results, Tryz.results50, go_sem, d0, d1, d2]) rfl ?_
        exact ⟨rfl, hS, hG⟩
    · go_simp
      refine hK _ _ ?_
      clear hK K
      go_simp
      refine wpAny_ready (rs := [3]) (by kernel_rfl) (by simp) ?_
      refine AllReady.cons rfl (fun K hK => ?_) AllReady.nil
      · go_simp
        refine hK _ _ ?_
        clear hK K
        go_simp
        refine wpAny_take (i := 12) (v := .string (s.extract z (z + 1))) rfl (by kernel_rfl) (by kernel_rfl) (by kernel_rfl) (fun _ _ _ h => h) (Or.inl ⟨by rfl, ?_⟩) ?_
        · intro w
          go_simp
          rw [if_pos (by omega), if_pos (by omega)]
        go_simp
        refine wpAny_ready (rs := [13]) (by kernel_rfl) (by simp) ?_
        refine AllReady.cons rfl (fun K hK => ?_) AllReady.nil
        go_simp
        refine (libClone _ _ (by rw [ByteArray.size_extract]; omega)).mono ?_
        rintro e w6 ⟨rfl, hb6⟩
        have hb6 : Below w4.heap.size w4 w6 := Below.trans (Below.refl _ _).drew hb6
        have s6 := s4.below hb6
        have r6 := (hb6.block _ (hp_lt r4)).trans r4
        have G6 : w.grownBy w6 (some g) := grown_trans G4 (grown_below hb6)
        clear s4 r4 G4 c0 c1 c2 k0 k1 k2 cL hb6
        obtain ⟨c0, c1, c2⟩ := tok_cells r6
        have cf : ∀ j, w6.frozen? ⟨w.heap.size, j, none⟩ = false := fun j => by simp [World.frozen?, r6]
        go_simp
        refine hK _ _ ?_
        clear hK K
        go_simp
        refine wpAny_ready (rs := [15]) (by kernel_rfl) (by simp) ?_
        refine AllReady.cons rfl (fun K hK => ?_) AllReady.nil
        go_simp
        refine hK _ _ ?_
        clear hK K
        go_simp
        refine wpAny_take (i := 16) (v := .pointer (some ⟨w.heap.size, 1, none⟩)) rfl (by kernel_rfl) (by kernel_rfl) (by kernel_rfl) (fun _ _ _ h => h) (Or.inl ⟨by rfl, ?_⟩) ?_
        · intro w
          go_simp
        go_simp
        refine wpAny_ready (rs := [17]) (by kernel_rfl) (by simp) ?_
        refine AllReady.cons rfl (fun K hK => ?_) AllReady.nil
        go_simp
        refine hK _ _ ?_
        clear hK K
        go_simp
        refine wpAny_done (by kernel_rfl) ?_ _
        obtain ⟨Z6, hZ6⟩ : ∃ Z6, Z6 = (w6.setCell ⟨w.heap.size, 0, none⟩ (.int .i64 5)).setCell ⟨w.heap.size, 1, none⟩ (.string (s.extract z (z + 1))) := ⟨_, rfl⟩
        have rZ : Z6.heap[w.heap.size]? = some (.cells #[.int .i64 5, .string (s.extract z (z + 1)), .int .i64 (z : Int)] 107 (0, 0)) := by
          rw [hZ6]; simp [World.setCell, Array.getElem?_modify, r6]
        have sZ : Sc R Z6 g s (z + 1) z := ⟨by rw [hZ6]; simp [World.setCell, Array.getElem?_modify, s6.blk, show w.heap.size ≠ g by omega]⟩
        have GZ : w.grownBy Z6 (some g) := by
          rw [hZ6]
          refine ⟨G6.os, G6.tape, G6.output, by simpa [World.setCell] using G6.size, fun i hi hr => ?_⟩
          rw [← G6.block i hi hr]
          simp [World.setCell, Array.getElem?_modify, show w.heap.size ≠ i by omega]
        have SZ := (show Hid _ from sZ)
        have GZ' := (show Hid _ from GZ)
        clear r6 G6 s6 sZ GZ
        subst hZ6
        go_wp2_with (first | (refine wpL_store_row rfl 107 _ _ rfl w.heap.size #[.int .i64 5, .string (s.extract z (z + 1)), .int .i64 (z : Int)] rfl rfl 107 _ rZ (by kernel_rfl) rfl (by simp [Value.oneCell']) ?_) | (refine wpL_load_row rfl 107 _ rfl w.heap.size _ 107 (0, 0) _ rfl rZ Tryz.underlying107 rfl (by kernel_rfl) ?_) | go_in)
        simp only [jumpN]
        have hh : (World.setRow ((w6.setCell ⟨w.heap.size, 0, none⟩ (.int .i64 5)).setCell ⟨w.heap.size, 1, none⟩ (.string (s.extract z (z + 1)))) w.heap.size #[.int .i64 5, .string (s.extract z (z + 1)), .int .i64 (z : Int)]).heap[w.heap.size]? = some (.cells #[.int .i64 5, .string (s.extract z (z + 1)), .int .i64 (z : Int)] 107 (0, 0)) := setRow_heap _ _ _ _ _ _ rZ
        have hS : Sc R (World.setRow ((w6.setCell ⟨w.heap.size, 0, none⟩ (.int .i64 5)).setCell ⟨w.heap.size, 1, none⟩ (.string (s.extract z (z + 1)))) w.heap.size #[.int .i64 5, .string (s.extract z (z + 1)), .int .i64 (z : Int)]) g s (z + 1) z := ⟨(setRow_other _ w.heap.size g _ (by omega)).trans SZ.out.blk⟩
        have hG : w.grownBy (World.setRow ((w6.setCell ⟨w.heap.size, 0, none⟩ (.int .i64 5)).setCell ⟨w.heap.size, 1, none⟩ (.string (s.extract z (z + 1)))) w.heap.size #[.int .i64 5, .string (s.extract z (z + 1)), .int .i64 (z : Int)]) (some g) := ⟨GZ'.out.os, GZ'.out.tape, GZ'.out.output, by simpa using GZ'.out.size, fun i hi hr => (setRow_other _ w.heap.size i _ (by omega)).trans (GZ'.out.block i hi hr)⟩
        generalize World.setRow ((w6.setCell ⟨w.heap.size, 0, none⟩ (.int .i64 5)).setCell ⟨w.heap.size, 1, none⟩ (.string (s.extract z (z + 1)))) w.heap.size #[.int .i64 5, .string (s.extract z (z + 1)), .int .i64 (z : Int)] = V at hh hS hG
        obtain ⟨d0, d1, d2⟩ := tok_cells hh
        refine bodyPost_ret (v := .tuple #[.agg #[.int .i64 5, .string (s.extract z (z + 1)), .int .i64 (z : Int)], .bool true]) (by simp [results, Tryz.results50, go_sem, d0, d1, d2]) rfl ?_
        exact ⟨rfl, hS, hG⟩
  · go_simp
    refine hK _ _ ?_
    clear hK K
    go_simp
    refine wpAny_ready (rs := [3, 7]) (by kernel_rfl) (by simp) ?_
    refine AllReady.cons rfl (fun K hK => ?_) (AllReady.cons rfl (fun K hK => ?_) AllReady.nil)
    · go_simp
      refine hK _ _ ?_
      clear hK K
      go_simp
      refine wpAny_ready (rs := [7]) (by kernel_rfl) (by simp) ?_
      refine AllReady.cons rfl (fun K hK => ?_) AllReady.nil
      · go_simp
        refine hK _ _ ?_
        clear hK K
        go_simp
        refine wpAny_take (i := 12) (v := .string (s.extract z (z + 1))) rfl (by kernel_rfl) (by kernel_rfl) (by kernel_rfl) (fun _ _ _ h => h) (Or.inl ⟨by rfl, ?_⟩) ?_
        · intro w
          go_simp
          rw [if_pos (by omega), if_pos (by omega)]
        go_simp
        refine wpAny_ready (rs := [13]) (by kernel_rfl) (by simp) ?_
        refine AllReady.cons rfl (fun K hK => ?_) AllReady.nil
        go_simp
        refine (libClone _ _ (by rw [ByteArray.size_extract]; omega)).mono ?_
        rintro e w6 ⟨rfl, hb6⟩
        have hb6 : Below w4.heap.size w4 w6 := Below.trans (Below.refl _ _).drew hb6
        have s6 := s4.below hb6
        have r6 := (hb6.block _ (hp_lt r4)).trans r4
        have G6 : w.grownBy w6 (some g) := grown_trans G4 (grown_below hb6)
        clear s4 r4 G4 c0 c1 c2 k0 k1 k2 cL hb6
        obtain ⟨c0, c1, c2⟩ := tok_cells r6
        have cf : ∀ j, w6.frozen? ⟨w.heap.size, j, none⟩ = false := fun j => by simp [World.frozen?, r6]
        go_simp
        refine hK _ _ ?_
        clear hK K
        go_simp
        refine wpAny_ready (rs := [15]) (by kernel_rfl) (by simp) ?_
        refine AllReady.cons rfl (fun K hK => ?_) AllReady.nil
        go_simp
        refine hK _ _ ?_
        clear hK K
        go_simp
        refine wpAny_take (i := 16) (v := .pointer (some ⟨w.heap.size, 1, none⟩)) rfl (by kernel_rfl) (by kernel_rfl) (by kernel_rfl) (fun _ _ _ h => h) (Or.inl ⟨by rfl, ?_⟩) ?_
        · intro w
          go_simp
        go_simp
        refine wpAny_ready (rs := [17]) (by kernel_rfl) (by simp) ?_
        refine AllReady.cons rfl (fun K hK => ?_) AllReady.nil
        go_simp
        refine hK _ _ ?_
        clear hK K
        go_simp
        refine wpAny_done (by kernel_rfl) ?_ _
        obtain ⟨Z6, hZ6⟩ : ∃ Z6, Z6 = (w6.setCell ⟨w.heap.size, 0, none⟩ (.int .i64 5)).setCell ⟨w.heap.size, 1, none⟩ (.string (s.extract z (z + 1))) := ⟨_, rfl⟩
        have rZ : Z6.heap[w.heap.size]? = some (.cells #[.int .i64 5, .string (s.extract z (z + 1)), .int .i64 (z : Int)] 107 (0, 0)) := by
          rw [hZ6]; simp [World.setCell, Array.getElem?_modify, r6]
        have sZ : Sc R Z6 g s (z + 1) z := ⟨by rw [hZ6]; simp [World.setCell, Array.getElem?_modify, s6.blk, show w.heap.size ≠ g by omega]⟩
        have GZ : w.grownBy Z6 (some g) := by
          rw [hZ6]
          refine ⟨G6.os, G6.tape, G6.output, by simpa [World.setCell] using G6.size, fun i hi hr => ?_⟩
          rw [← G6.block i hi hr]
          simp [World.setCell, Array.getElem?_modify, show w.heap.size ≠ i by omega]
        have SZ := (show Hid _ from sZ)
        have GZ' := (show Hid _ from GZ)
        clear r6 G6 s6 sZ GZ
        subst hZ6
        go_wp2_with (first | (refine wpL_store_row rfl 107 _ _ rfl w.heap.size #[.int .i64 5, .string (s.extract z (z + 1)), .int .i64 (z : Int)] rfl rfl 107 _ rZ (by kernel_rfl) rfl (by simp [Value.oneCell']) ?_) | (refine wpL_load_row rfl 107 _ rfl w.heap.size _ 107 (0, 0) _ rfl rZ Tryz.underlying107 rfl (by kernel_rfl) ?_) | go_in)
        simp only [jumpN]
        have hh : (World.setRow ((w6.setCell ⟨w.heap.size, 0, none⟩ (.int .i64 5)).setCell ⟨w.heap.size, 1, none⟩ (.string (s.extract z (z + 1)))) w.heap.size #[.int .i64 5, .string (s.extract z (z + 1)), .int .i64 (z : Int)]).heap[w.heap.size]? = some (.cells #[.int .i64 5, .string (s.extract z (z + 1)), .int .i64 (z : Int)] 107 (0, 0)) := setRow_heap _ _ _ _ _ _ rZ
        have hS : Sc R (World.setRow ((w6.setCell ⟨w.heap.size, 0, none⟩ (.int .i64 5)).setCell ⟨w.heap.size, 1, none⟩ (.string (s.extract z (z + 1)))) w.heap.size #[.int .i64 5, .string (s.extract z (z + 1)), .int .i64 (z : Int)]) g s (z + 1) z := ⟨(setRow_other _ w.heap.size g _ (by omega)).trans SZ.out.blk⟩
        have hG : w.grownBy (World.setRow ((w6.setCell ⟨w.heap.size, 0, none⟩ (.int .i64 5)).setCell ⟨w.heap.size, 1, none⟩ (.string (s.extract z (z + 1)))) w.heap.size #[.int .i64 5, .string (s.extract z (z + 1)), .int .i64 (z : Int)]) (some g) := ⟨GZ'.out.os, GZ'.out.tape, GZ'.out.output, by simpa using GZ'.out.size, fun i hi hr => (setRow_other _ w.heap.size i _ (by omega)).trans (GZ'.out.block i hi hr)⟩
        generalize World.setRow ((w6.setCell ⟨w.heap.size, 0, none⟩ (.int .i64 5)).setCell ⟨w.heap.size, 1, none⟩ (.string (s.extract z (z + 1)))) w.heap.size #[.int .i64 5, .string (s.extract z (z + 1)), .int .i64 (z : Int)] = V at hh hS hG
        obtain ⟨d0, d1, d2⟩ := tok_cells hh
        refine bodyPost_ret (v := .tuple #[.agg #[.int .i64 5, .string (s.extract z (z + 1)), .int .i64 (z : Int)], .bool true]) (by simp [results, Tryz.results50, go_sem, d0, d1, d2]) rfl ?_
        exact ⟨rfl, hS, hG⟩
    · go_simp
      refine hK _ _ ?_
      clear hK K
      go_simp
      refine wpAny_ready (rs := [3]) (by kernel_rfl) (by simp) ?_
      refine AllReady.cons rfl (fun K hK => ?_) AllReady.nil
      · go_simp
        refine hK _ _ ?_
        clear hK K
        go_simp
        refine wpAny_take (i := 12) (v := .string (s.extract z (z + 1))) rfl (by kernel_rfl) (by kernel_rfl) (by kernel_rfl) (fun _ _ _ h => h) (Or.inl ⟨by rfl, ?_⟩) ?_
        · intro w
          go_simp
          rw [if_pos (by omega), if_pos (by omega)]
        go_simp
        refine wpAny_ready (rs := [13]) (by kernel_rfl) (by simp) ?_
        refine AllReady.cons rfl (fun K hK => ?_) AllReady.nil
        go_simp
        refine (libClone _ _ (by rw [ByteArray.size_extract]; omega)).mono ?_
        rintro e w6 ⟨rfl, hb6⟩
        have hb6 : Below w4.heap.size w4 w6 := Below.trans (Below.refl _ _).drew hb6
        have s6 := s4.below hb6
        have r6 := (hb6.block _ (hp_lt r4)).trans r4
        have G6 : w.grownBy w6 (some g) := grown_trans G4 (grown_below hb6)
        clear s4 r4 G4 c0 c1 c2 k0 k1 k2 cL hb6
        obtain ⟨c0, c1, c2⟩ := tok_cells r6
        have cf : ∀ j, w6.frozen? ⟨w.heap.size, j, none⟩ = false := fun j => by simp [World.frozen?, r6]
        go_simp
        refine hK _ _ ?_
        clear hK K
        go_simp
        refine wpAny_ready (rs := [15]) (by kernel_rfl) (by simp) ?_
        refine AllReady.cons rfl (fun K hK => ?_) AllReady.nil
        go_simp
        refine hK _ _ ?_
        clear hK K
        go_simp
        refine wpAny_take (i := 16) (v := .pointer (some ⟨w.heap.size, 1, none⟩)) rfl (by kernel_rfl) (by kernel_rfl) (by kernel_rfl) (fun _ _ _ h => h) (Or.inl ⟨by rfl, ?_⟩) ?_
        · intro w
          go_simp
        go_simp
        refine wpAny_ready (rs := [17]) (by kernel_rfl) (by simp) ?_
        refine AllReady.cons rfl (fun K hK => ?_) AllReady.nil
        go_simp
        refine hK _ _ ?_
        clear hK K
        go_simp
        refine wpAny_done (by kernel_rfl) ?_ _
        obtain ⟨Z6, hZ6⟩ : ∃ Z6, Z6 = (w6.setCell ⟨w.heap.size, 0, none⟩ (.int .i64 5)).setCell ⟨w.heap.size, 1, none⟩ (.string (s.extract z (z + 1))) := ⟨_, rfl⟩
        have rZ : Z6.heap[w.heap.size]? = some (.cells #[.int .i64 5, .string (s.extract z (z + 1)), .int .i64 (z : Int)] 107 (0, 0)) := by
          rw [hZ6]; simp [World.setCell, Array.getElem?_modify, r6]
        have sZ : Sc R Z6 g s (z + 1) z := ⟨by rw [hZ6]; simp [World.setCell, Array.getElem?_modify, s6.blk, show w.heap.size ≠ g by omega]⟩
        have GZ : w.grownBy Z6 (some g) := by
          rw [hZ6]
          refine ⟨G6.os, G6.tape, G6.output, by simpa [World.setCell] using G6.size, fun i hi hr => ?_⟩
          rw [← G6.block i hi hr]
          simp [World.setCell, Array.getElem?_modify, show w.heap.size ≠ i by omega]
        have SZ := (show Hid _ from sZ)
        have GZ' := (show Hid _ from GZ)
        clear r6 G6 s6 sZ GZ
        subst hZ6
        go_wp2_with (first | (refine wpL_store_row rfl 107 _ _ rfl w.heap.size #[.int .i64 5, .string (s.extract z (z + 1)), .int .i64 (z : Int)] rfl rfl 107 _ rZ (by kernel_rfl) rfl (by simp [Value.oneCell']) ?_) | (refine wpL_load_row rfl 107 _ rfl w.heap.size _ 107 (0, 0) _ rfl rZ Tryz.underlying107 rfl (by kernel_rfl) ?_) | go_in)
        simp only [jumpN]
        have hh : (World.setRow ((w6.setCell ⟨w.heap.size, 0, none⟩ (.int .i64 5)).setCell ⟨w.heap.size, 1, none⟩ (.string (s.extract z (z + 1)))) w.heap.size #[.int .i64 5, .string (s.extract z (z + 1)), .int .i64 (z : Int)]).heap[w.heap.size]? = some (.cells #[.int .i64 5, .string (s.extract z (z + 1)), .int .i64 (z : Int)] 107 (0, 0)) := setRow_heap _ _ _ _ _ _ rZ
        have hS : Sc R (World.setRow ((w6.setCell ⟨w.heap.size, 0, none⟩ (.int .i64 5)).setCell ⟨w.heap.size, 1, none⟩ (.string (s.extract z (z + 1)))) w.heap.size #[.int .i64 5, .string (s.extract z (z + 1)), .int .i64 (z : Int)]) g s (z + 1) z := ⟨(setRow_other _ w.heap.size g _ (by omega)).trans SZ.out.blk⟩
        have hG : w.grownBy (World.setRow ((w6.setCell ⟨w.heap.size, 0, none⟩ (.int .i64 5)).setCell ⟨w.heap.size, 1, none⟩ (.string (s.extract z (z + 1)))) w.heap.size #[.int .i64 5, .string (s.extract z (z + 1)), .int .i64 (z : Int)]) (some g) := ⟨GZ'.out.os, GZ'.out.tape, GZ'.out.output, by simpa using GZ'.out.size, fun i hi hr => (setRow_other _ w.heap.size i _ (by omega)).trans (GZ'.out.block i hi hr)⟩
        generalize World.setRow ((w6.setCell ⟨w.heap.size, 0, none⟩ (.int .i64 5)).setCell ⟨w.heap.size, 1, none⟩ (.string (s.extract z (z + 1)))) w.heap.size #[.int .i64 5, .string (s.extract z (z + 1)), .int .i64 (z : Int)] = V at hh hS hG
        obtain ⟨d0, d1, d2⟩ := tok_cells hh
        refine bodyPost_ret (v := .tuple #[.agg #[.int .i64 5, .string (s.extract z (z + 1)), .int .i64 (z : Int)], .bool true]) (by simp [results, Tryz.results50, go_sem, d0, d1, d2]) rfl ?_
        exact ⟨rfl, hS, hG⟩
end Go.Proofs.YtadoifnfgoonaaaGreatDoor
