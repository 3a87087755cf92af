
/- A source of draws: what operations on a store are made of. -/

/- A source of draws: plain mails. -/
import Derived.Test.YtillilllceeonaaDoorAlRow
namespace Go.Proofs.YtillilllceeonaaDoor
open Go.RowKit Go.Lib Go.Maps
set_option maxRecDepth 20000 in
theorem OwnX.grG {B g : Nat} {v : Value} {P : List ByteArray} {w w' : World} (h : OwnX B v P w) (hg : w.grownBy w' (some g)) (hB : g < B) : OwnX B v P w' := row_same h (Same.gr hg hB (Nat.le_refl _))
set_option maxRecDepth 20000 in
theorem OwnN.grG {B g : Nat} {v : Value} {P : List Int} {w w' : World} (h : OwnN B v P w) (hg : w.grownBy w' (some g)) (hB : g < B) : OwnN B v P w' := row_same h (Same.gr hg hB (Nat.le_refl _))
set_option maxRecDepth 20000 in
theorem OwnN.made (B : Nat) (w : World) (hB : B ≤ w.heap.size) : OwnN B (.slice (some ⟨w.heap.size, 0, none⟩) 0 0) [] (w.alloc (.cells #[] 2)) :=
  ⟨rfl, .inr ⟨w.heap.size, 0, #[], rfl, hB, hp_alloc _ _, Nat.le_refl _, Nat.zero_le _, rfl, rfl⟩⟩
set_option maxRecDepth 20000 in
set_option maxHeartbeats 4000000 in
theorem srcBoxName (g : Nat) (o : Option Addr) (c : List UInt8) (cp a z : Nat) (w : World) (h : Src w g o c.length cp a z) (hc : Code g w o c) (ha : a ≤ 900000000000) (hl : c.length ≤ 1048576) :
    Calls Tryd.prog 29 #[.pointer (some ⟨g, 0, none⟩)] w fun e w' => ∃ (t : ByteArray) (a' : Nat), e = .returned (.string t) ∧ t.size ≤ 5 ∧ a' ≤ a + 1 ∧ Src w' g o c.length cp a' z ∧ w.grownBy w' (some g) := by
  have HC : Hid (Code g w o c) := hc
  have hgl := h.lt
  have Hs := mkHid h
  have Hg : Hid (w.grownBy w (some g)) := gr_refl _ _
  clear h hc
  go_enter Tryd.func29, Tryd.ntmps29
  have hb7 : ∀ cs, Below w.heap.size w (w.alloc (.cells cs 9)) := fun cs => (Below.refl _ _).alloc (Nat.le_refl _) _
  have hN6 := fun cs => srcN g o c cp a z 5 (w.alloc (.cells cs 9)) (Hs.out.below (hb7 cs)) (HC.out.grown (gr_trans Hg.out (gr_below (hb7 cs))) (Nat.le_refl _)) (by omega) hl (by omega) (by omega)
  have hl10 : g < w.heap.size := Hs.out.lt
  go_wp2_with fail
  refine (hN6 _).mono ?_
  rintro e w1 ⟨v4, rfl, hv4, hs8, hg9⟩
  obtain ⟨t5, hct5, hzt5⟩ := table_at (M := 5) hg9 hl10 (show v4 < 5 by omega) (by decide)
  have hlv4 : v4 < 5 := by omega
  have hgg11 := gr_trans (gr_below (hb7 _)) hg9
  have Hs2 := mkHid hs8
  have Hg3 := mkHid (gr_trans Hg.out hgg11)
  clear hN6 hs8 hg9 hb7 hl10 hgg11 Hs Hg
  go_wp2
  go_ret
  exact ⟨_, _, rfl, by omega, by omega, Hs2.out, Hg3.out⟩
set_option maxRecDepth 20000 in
set_option maxHeartbeats 4000000 in
theorem srcFlag (g : Nat) (o : Option Addr) (c : List UInt8) (cp a z : Nat) (w : World) (h : Src w g o c.length cp a z) (hc : Code g w o c) (ha : a ≤ 900000000000) (hl : c.length ≤ 1048576) :
    Calls Tryd.prog 43 #[.pointer (some ⟨g, 0, none⟩)] w fun e w' => ∃ (t : ByteArray) (a' : Nat), e = .returned (.string t) ∧ t.size ≤ 9 ∧ a' ≤ a + 1 ∧ Src w' g o c.length cp a' z ∧ w.grownBy w' (some g) := by
  have HC : Hid (Code g w o c) := hc
  have hgl := h.lt
  have Hs := mkHid h
  have Hg : Hid (w.grownBy w (some g)) := gr_refl _ _
  clear h hc
  go_enter Tryd.func43, Tryd.ntmps43
  have hb7 : ∀ cs, Below w.heap.size w (w.alloc (.cells cs 9)) := fun cs => (Below.refl _ _).alloc (Nat.le_refl _) _
  have hN6 := fun cs => srcN g o c cp a z 8 (w.alloc (.cells cs 9)) (Hs.out.below (hb7 cs)) (HC.out.grown (gr_trans Hg.out (gr_below (hb7 cs))) (Nat.le_refl _)) (by omega) hl (by omega) (by omega)
  have hl10 : g < w.heap.size := Hs.out.lt
  go_wp2_with fail
  refine (hN6 _).mono ?_
  rintro e w1 ⟨v4, rfl, hv4, hs8, hg9⟩
  obtain ⟨t5, hct5, hzt5⟩ := table_at (M := 9) hg9 hl10 (show v4 < 8 by omega) (by decide)
  have hlv4 : v4 < 8 := by omega
  have hgg11 := gr_trans (gr_below (hb7 _)) hg9
  have Hs2 := mkHid hs8
  have Hg3 := mkHid (gr_trans Hg.out hgg11)
  clear hN6 hs8 hg9 hb7 hl10 hgg11 Hs Hg
  go_wp2
  go_ret
  exact ⟨_, _, rfl, by omega, by omega, Hs2.out, Hg3.out⟩
set_option maxRecDepth 20000 in
set_option maxHeartbeats 4000000 in
theorem srcDomain (g : Nat) (o : Option Addr) (c : List UInt8) (cp a z : Nat) (w : World) (h : Src w g o c.length cp a z) (hc : Code g w o c) (ha : a ≤ 900000000000) (hl : c.length ≤ 1048576) :
    Calls Tryd.prog 75 #[.pointer (some ⟨g, 0, none⟩)] w fun e w' => ∃ (t : ByteArray) (a' : Nat), e = .returned (.string t) ∧ t.size ≤ 14 ∧ a' ≤ a + 2 ∧ Src w' g o c.length cp a' z ∧ w.grownBy w' (some g) := by
  have HC : Hid (Code g w o c) := hc
  have hgl := h.lt
  have Hs := mkHid h
  have Hg : Hid (w.grownBy w (some g)) := gr_refl _ _
  clear h hc
  go_enter Tryd.func75, Tryd.ntmps75
  have hN7 := srcOne g o c cp a z 9 w Hs.out (HC.out.grown Hg.out (Nat.le_refl _)) (by omega) hl (by omega) (by omega)
  go_wp2_with fail
  refine hN7.mono ?_
  rintro e w2 ⟨b1, rfl, hs5, hg6⟩
  have Hs3 := mkHid hs5
  have Hg4 := mkHid (gr_trans Hg.out hg6)
  clear hN7 hs5 hg6 Hs Hg
  cases b1 with
  | true =>
    have hb14 : ∀ cs, Below w2.heap.size w2 (w2.alloc (.cells cs 9)) := fun cs => (Below.refl _ _).alloc (Nat.le_refl _) _
    have hN13 := fun cs => srcN g o c cp (a + 1) z 6 (w2.alloc (.cells cs 9)) (Hs3.out.below (hb14 cs)) (HC.out.grown (gr_trans Hg4.out (gr_below (hb14 cs))) (Nat.le_refl _)) (by omega) hl (by omega) (by omega)
    have hl17 : g < w2.heap.size := Hs3.out.lt
    go_wp2_with fail
    refine (hN13 _).mono ?_
    rintro e w8 ⟨v11, rfl, hv11, hs15, hg16⟩
    obtain ⟨t12, hct12, hzt12⟩ := table_at (M := 11) hg16 hl17 (show v11 < 6 by omega) (by decide)
    have hlv11 : v11 < 6 := by omega
    have hgg18 := gr_trans (gr_below (hb14 _)) hg16
    have Hs9 := mkHid hs15
    have Hg10 := mkHid (gr_trans Hg4.out hgg18)
    clear hN13 hs15 hg16 hb14 hl17 hgg18 Hs3 Hg4
    go_wp2
    go_ret
    exact ⟨_, _, rfl, by omega, by omega, Hs9.out, Hg10.out⟩
  | false =>
    have hb14 : ∀ cs, Below w2.heap.size w2 (w2.alloc (.cells cs 9)) := fun cs => (Below.refl _ _).alloc (Nat.le_refl _) _
    have hN13 := fun cs => srcN g o c cp (a + 1) z 4 (w2.alloc (.cells cs 9)) (Hs3.out.below (hb14 cs)) (HC.out.grown (gr_trans Hg4.out (gr_below (hb14 cs))) (Nat.le_refl _)) (by omega) hl (by omega) (by omega)
    have hl17 : g < w2.heap.size := Hs3.out.lt
    go_wp2_with fail
    refine (hN13 _).mono ?_
    rintro e w8 ⟨v11, rfl, hv11, hs15, hg16⟩
    obtain ⟨t12, hct12, hzt12⟩ := table_at (M := 14) hg16 hl17 (show v11 < 4 by omega) (by decide)
    have hlv11 : v11 < 4 := by omega
    have hgg18 := gr_trans (gr_below (hb14 _)) hg16
    have Hs9 := mkHid hs15
    have Hg10 := mkHid (gr_trans Hg4.out hgg18)
    clear hN13 hs15 hg16 hb14 hl17 hgg18 Hs3 Hg4
    go_wp2
    go_ret
    exact ⟨_, _, rfl, by omega, by omega, Hs9.out, Hg10.out⟩
set_option maxRecDepth 20000 in
set_option maxHeartbeats 4000000 in
theorem srcUids (g : Nat) (o : Option Addr) (c : List UInt8) (cp a z : Nat) (w : World) (h : Src w g o c.length cp a z) (hc : Code g w o c) (ha : a ≤ 800000000000) (hl : c.length ≤ 1048576) :
    Calls Tryd.prog 30 #[.pointer (some ⟨g, 0, none⟩)] w fun e w' => ∃ (v : Value) (P : List Int) (a' : Nat), e = .returned v ∧ P.length ≤ 4 ∧ (∀ t ∈ P, 0 ≤ t ∧ t ≤ 100) ∧ OwnN w.heap.size v P w' ∧ a' ≤ a + 20 ∧ Src w' g o c.length cp a' z ∧ w.grownBy w' (some g) := by
  have HC : Hid (Code g w o c) := hc
  have hgl := h.lt
  have Hs := mkHid h
  have Hg : Hid (w.grownBy w (some g)) := gr_refl _ _
  clear h hc
  go_enter Tryd.func30, Tryd.ntmps30
  obtain ⟨W1, hW1⟩ : ∃ W, w.alloc (.cells #[] 2) = W := ⟨_, rfl⟩
  have b1 : Below w.heap.size w W1 := by rw [← hW1]; exact (Below.refl _ _).alloc (Nat.le_refl _) _
  have O1 : OwnN w.heap.size (.slice (some ⟨w.heap.size, 0, none⟩) 0 0) [] W1 := by rw [← hW1]; exact OwnN.made _ w (Nat.le_refl _)
  have Hs0 := mkHid (Hs.out.below b1)
  have Hg0 : Hid (w.grownBy W1 (some g)) := gr_below b1
  have HO1 := mkHid O1
  have HW1 := mkHid hW1
  clear O1 b1 hW1 Hs Hg
  have hN := srcN g o c cp a z 5 W1 Hs0.out (HC.out.grown Hg0.out (Nat.le_refl _)) (by omega) hl (by omega) (by omega)
  go_wp2_with fail
  rw [HW1.out]
  refine hN.mono ?_
  rintro e w1 ⟨v, rfl, hv, hs1, hg1⟩
  have Hs1 := mkHid hs1
  have Hg1 := mkHid (gr_trans Hg0.out hg1)
  have HO2 := mkHid (HO1.out.grG hg1 hgl)
  clear hN hs1 hg1 Hs0 Hg0 HO1 HW1
  go_wp2
  go_loopw [3, 4] (fun ov iv wr => ∃ (k a' : Nat) (P : List Int), iv = .int .i64 k ∧ P.length + k ≤ 4 ∧ a' + k ≤ a + 5 ∧ Hid (∀ t ∈ P, 0 ≤ t ∧ t ≤ 100) ∧ Hid (Src wr g o c.length cp a' z) ∧ Hid (w.grownBy wr (some g)) ∧ Hid (OwnN w.heap.size ov P wr)) (fun _ iv _ => (Lib.intOf iv).toNat)
  case atStart => exact ⟨v, a + 1, [], by go_num, by simp; omega, by omega, fun t ht => by simp at ht, Hs1, Hg1, HO2⟩
  case round =>
    clear Hs1 Hg1 HO2
    obtain ⟨k, a', P, rfl, hPk, hak, HP, Hs, Hg, HO⟩ := hrel
    by_cases hk : 0 < k
    · have hwr := Hg.out.size
      have hN := srcN g o c cp a' z 8 wr Hs.out (HC.out.grown Hg.out (Nat.le_refl _)) (by omega) hl (by omega) (by omega)
      go_wp2_with fail
      refine hN.mono ?_
      rintro e w1 ⟨v1, rfl, hv1, hs1, hg1⟩
      have hO3 := HO.out.grG hg1 hgl
      have Hs1 := mkHid hs1
      have Hg1 := mkHid (gr_trans Hg.out hg1)
      have hsz1 : w.heap.size ≤ w1.heap.size := Hg1.out.size
      have hPl : P.length ≤ 1000000 := by omega
      have HO3 := mkHid hO3
      clear hN hs1 hg1 hO3 Hs Hg HO
      go_wp2_with (at_builtin; go_must (refine wp_appN (w := w1) rfl _ _ rfl w.heap.size u3 P rfl HO3.out (1 + (v1 : Int)) 1 rfl hPl hsz1 ?_; intro v' w' hO' hG'; refine Hid.out ?_))
      have hblk : ∀ q, u3.ownBlock = some q → w.heap.size ≤ q := fun q hq => (World.ownsRow.lt HO3.out q hq).1
      have bA : Below w1.heap.size w1 (w1.alloc (.cells #[.int .i64 (1 + (v1 : Int))] 2)) := (Below.refl _ _).alloc (Nat.le_refl _) _
      have Hs2 := mkHid ((Hs1.out.below bA).row hG' (fun q hq => by have := hblk q hq; omega))
      have Hg2 := mkHid (gr_row (gr_trans Hg1.out (gr_below bA)) hG' hblk)
      have HO4 := mkHid hO'
      have HP2 : Hid (∀ t ∈ P ++ [(1 + (v1 : Int))], 0 ≤ t ∧ t ≤ 100) := by
        intro t ht
        rcases List.mem_append.1 ht with ht | ht
        · exact HP.out t ht
        · simp only [List.mem_cons, List.not_mem_nil, or_false] at ht
          subst ht
          omega
      have hP2 : (P ++ [(1 + (v1 : Int))]).length ≤ P.length + 1 := by simp
      clear hO' hG' bA HO3 HP Hs1 Hg1
      generalize P ++ [(1 + (v1 : Int))] = P2 at *
      refine mkHid ?_
      go_wp2
      refine ⟨⟨k - 1, a' + 1, P2, by go_num, by omega, by omega, HP2, Hs2, Hg2, HO4⟩, by simp [Lib.intOf]; omega⟩
    · go_wp2
      go_ret
      exact ⟨_, P, a', rfl, by omega, HP.out, HO.out, by omega, Hs.out, Hg.out⟩
set_option maxRecDepth 20000 in
set_option maxHeartbeats 4000000 in
theorem srcFlags (g : Nat) (o : Option Addr) (c : List UInt8) (cp a z : Nat) (w : World) (h : Src w g o c.length cp a z) (hc : Code g w o c) (ha : a ≤ 800000000000) (hl : c.length ≤ 1048576) :
    Calls Tryd.prog 31 #[.pointer (some ⟨g, 0, none⟩)] w fun e w' => ∃ (v : Value) (P : List ByteArray) (a' : Nat), e = .returned v ∧ P.length ≤ 3 ∧ (∀ t ∈ P, t.size ≤ 9) ∧ OwnX w.heap.size v P w' ∧ a' ≤ a + 20 ∧ Src w' g o c.length cp a' z ∧ w.grownBy w' (some g) := by
  have HC : Hid (Code g w o c) := hc
  have hgl := h.lt
  have Hs := mkHid h
  have Hg : Hid (w.grownBy w (some g)) := gr_refl _ _
  clear h hc
  go_enter Tryd.func31, Tryd.ntmps31
  obtain ⟨W1, hW1⟩ : ∃ W, w.alloc (.cells #[] 9) = W := ⟨_, rfl⟩
  have b1 : Below w.heap.size w W1 := by rw [← hW1]; exact (Below.refl _ _).alloc (Nat.le_refl _) _
  have O1 : OwnX w.heap.size (.slice (some ⟨w.heap.size, 0, none⟩) 0 0) [] W1 := by rw [← hW1]; exact OwnX.made _ w (Nat.le_refl _)
  have Hs0 := mkHid (Hs.out.below b1)
  have Hg0 : Hid (w.grownBy W1 (some g)) := gr_below b1
  have HO1 := mkHid O1
  have HW1 := mkHid hW1
  clear O1 b1 hW1 Hs Hg
  have hN := srcN g o c cp a z 4 W1 Hs0.out (HC.out.grown Hg0.out (Nat.le_refl _)) (by omega) hl (by omega) (by omega)
  go_wp2_with fail
  rw [HW1.out]
  refine hN.mono ?_
  rintro e w1 ⟨v, rfl, hv, hs1, hg1⟩
  have Hs1 := mkHid hs1
  have Hg1 := mkHid (gr_trans Hg0.out hg1)
  have HO2 := mkHid (HO1.out.grG hg1 hgl)
  clear hN hs1 hg1 Hs0 Hg0 HO1 HW1
  go_wp2
  go_loopw [3, 4] (fun ov iv wr => ∃ (k a' : Nat) (P : List ByteArray), iv = .int .i64 k ∧ P.length + k ≤ 3 ∧ a' + k ≤ a + 4 ∧ Hid (∀ t ∈ P, t.size ≤ 9) ∧ Hid (Src wr g o c.length cp a' z) ∧ Hid (w.grownBy wr (some g)) ∧ Hid (OwnX w.heap.size ov P wr)) (fun _ iv _ => (Lib.intOf iv).toNat)
  case atStart => exact ⟨v, a + 1, [], by go_num, by simp; omega, by omega, fun t ht => by simp at ht, Hs1, Hg1, HO2⟩
  case round =>
    clear Hs1 Hg1 HO2
    obtain ⟨k, a', P, rfl, hPk, hak, HP, Hs, Hg, HO⟩ := hrel
    by_cases hk : 0 < k
    · have hwr := Hg.out.size
      have hN := srcFlag g o c cp a' z wr Hs.out (HC.out.grown Hg.out (Nat.le_refl _)) (by omega) hl
      go_wp2_with fail
      refine hN.mono ?_
      rintro e w1 ⟨t1, a2, rfl, hz1, ha2, hs1, hg1⟩
      have hO3 := HO.out.grG hg1 hgl
      have Hs1 := mkHid hs1
      have Hg1 := mkHid (gr_trans Hg.out hg1)
      have hsz1 : w.heap.size ≤ w1.heap.size := Hg1.out.size
      have hPl : P.length ≤ 1000000 := by omega
      have HO3 := mkHid hO3
      clear hN hs1 hg1 hO3 Hs Hg HO
      go_wp2_with (at_builtin; go_must (refine wp_appX (w := w1) rfl _ _ rfl w.heap.size u3 P rfl HO3.out t1 1 rfl hPl hsz1 ?_; intro v' w' hO' hG'; refine Hid.out ?_))
      have hblk : ∀ q, u3.ownBlock = some q → w.heap.size ≤ q := fun q hq => (World.ownsRow.lt HO3.out q hq).1
      have bA : Below w1.heap.size w1 (w1.alloc (.cells #[.string t1] 9)) := (Below.refl _ _).alloc (Nat.le_refl _) _
      have Hs2 := mkHid ((Hs1.out.below bA).row hG' (fun q hq => by have := hblk q hq; omega))
      have Hg2 := mkHid (gr_row (gr_trans Hg1.out (gr_below bA)) hG' hblk)
      have HO4 := mkHid hO'
      have HP2 : Hid (∀ t ∈ P ++ [t1], t.size ≤ 9) := by
        intro t ht
        rcases List.mem_append.1 ht with ht | ht
        · exact HP.out t ht
        · simp only [List.mem_cons, List.not_mem_nil, or_false] at ht
          subst ht
          exact hz1
      have hP2 : (P ++ [t1]).length ≤ P.length + 1 := by simp
      clear hO' hG' bA HO3 HP Hs1 Hg1
      generalize P ++ [t1] = P2 at *
      refine mkHid ?_
      go_wp2
      refine ⟨⟨k - 1, a2, P2, by go_num, by omega, by omega, HP2, Hs2, Hg2, HO4⟩, by simp [Lib.intOf]; omega⟩
    · go_wp2
      go_ret
      exact ⟨_, P, a', rfl, by omega, HP.out, HO.out, by omega, Hs.out, Hg.out⟩
end Go.Proofs.YtillilllceeonaaDoor
namespace Go.Proofs.YtillilllceeonaaDoor
open Go.RowKit Go.Lib Go.Maps
def pmFact (t0 : ByteArray) (g B : Nat) (j : Nat) (v : Value) (w : World) : Prop :=
  match j with
  | 0 => v = .string t0
  | 1 => tabM 21 B 12 v w
  | 2 => v = .pointer (some ⟨g, 0, none⟩)
  | 3 => numM 0 12 v
  | 4 => ptrM 21 B v w
  | 5 => txtM 21 v
  | 6 => ∃ t : ByteArray, v = .string t ∧ t.size ≤ t0.size + 21
  | 7 => tabM 2 B 4 v w
  | 8 => v = .pointer (some ⟨g, 0, none⟩)
  | 9 => numM 0 4 v
  | 10 => ptrM 2 B v w
  | 11 => txtM 2 v
  | 12 => ∃ t : ByteArray, v = .string t ∧ t.size ≤ t0.size + 23
  | _ => True
def pmDst (j : Nat) : Nat :=
  match j with
  | 0 => 28
  | 1 => 29
  | 2 => 30
  | 3 => 31
  | 4 => 32
  | 5 => 33
  | 6 => 34
  | 7 => 35
  | 8 => 36
  | 9 => 37
  | 10 => 38
  | 11 => 39
  | 12 => 40
  | _ => 999
set_option maxRecDepth 20000 in
theorem pmFact.gr {t0 : ByteArray} {g B : Nat} (hB : g < B) (j : Nat) (v : Value) (w w' : World) (h : pmFact t0 g B j v w) (hg : w.grownBy w' (some g)) : pmFact t0 g B j v w' := by
  unfold pmFact at h ⊢
  split
  all_goals first
    | exact tabM.gr h hg hB
    | exact ptrM.gr h hg hB
    | exact h
    | trivial
abbrev pmAct (L : List Value) (x : Nat → Value) (R : List Value) : Act := { tmps := (L ++ [x 28, x 29, x 30, x 31, x 32, x 33, x 34, x 35, x 36, x 37, x 38, x 39, x 40] ++ R).toArray, defers := [] }
set_option maxRecDepth 20000 in
set_option maxHeartbeats 4000000 in
theorem srcPlainMail (g : Nat) (o : Option Addr) (c : List UInt8) (cp a z : Nat) (w : World) (h : Src w g o c.length cp a z) (hc : Code g w o c) (ha : a ≤ 800000000000) (hl : c.length ≤ 1048576) :
    Calls Tryd.prog 32 #[.pointer (some ⟨g, 0, none⟩)] w fun e w' => ∃ (t : ByteArray) (a' : Nat), e = .returned (.string t) ∧ t.size ≤ 500 ∧ a' ≤ a + 600 ∧ Src w' g o c.length cp a' z ∧ w.grownBy w' (some g) := by
  have HC : Hid (Code g w o c) := hc
  have hgl := h.lt
  have Hs := mkHid h
  have Hg : Hid (w.grownBy w (some g)) := gr_refl _ _
  clear h hc
  go_enter Tryd.func32, Tryd.ntmps32
  have hN7 := srcN g o c cp a z 4 w Hs.out (HC.out.grown Hg.out (Nat.le_refl _)) (by omega) hl (by omega) (by omega)
  go_wp2_with fail
  refine hN7.mono ?_
  rintro e w2 ⟨v1, rfl, hv1, hs5, hg6⟩
  have Hs3 := mkHid hs5
  have Hg4 := mkHid (gr_trans Hg.out hg6)
  clear hN7 hs5 hg6 Hs Hg
  go_wp2
  go_loopw [3, 4] (fun tv iv wr => ∃ (k a' : Nat) (t : ByteArray), iv = .int .i64 k ∧ tv = .string t ∧ t.size + 10 * k ≤ 50 ∧ a' + k ≤ a + 5 ∧ Hid (Src wr g o c.length cp a' z) ∧ Hid (w.grownBy wr (some g))) (fun _ iv _ => (Lib.intOf iv).toNat)
  case atStart => exact ⟨v1, (a + 1), _, by go_num, rfl, by show 9 + 10 * v1 ≤ 50; omega, by omega, Hs3, Hg4⟩
  case round =>
    clear Hs3 Hg4
    obtain ⟨k, a', t, rfl, rfl, hts, hak, Hs, Hg⟩ := hrel
    by_cases hk : 0 < k
    · have hb7 : ∀ cs, Below wr.heap.size wr (wr.alloc (.cells cs 9)) := fun cs => (Below.refl _ _).alloc (Nat.le_refl _) _
      have hN6 := fun cs => srcN g o c cp a' z 8 (wr.alloc (.cells cs 9)) (Hs.out.below (hb7 cs)) (HC.out.grown (gr_trans Hg.out (gr_below (hb7 cs))) (Nat.le_refl _)) (by omega) hl (by omega) (by omega)
      have hl10 : g < wr.heap.size := Hs.out.lt
      go_wp2_with fail
      refine (hN6 _).mono ?_
      rintro e w1 ⟨v4, rfl, hv4, hs8, hg9⟩
      obtain ⟨t5, hct5, hzt5⟩ := table_at (M := 7) hg9 hl10 (show v4 < 8 by omega) (by decide)
      have hlv4 : v4 < 8 := by omega
      have hgg11 := gr_trans (gr_below (hb7 _)) hg9
      have Hs2 := mkHid hs8
      have Hg3 := mkHid (gr_trans Hg.out hgg11)
      clear hN6 hs8 hg9 hb7 hl10 hgg11 Hs Hg
      have n0 : ¬ 9223372036854775807 < t.size + t5.size := by omega
      have n1 : ¬ 9223372036854775807 < t.size + t5.size + 1 := by omega
      go_wp2
      go_roundw
      case rel => exact ⟨k - 1, _, _, by go_num, rfl, by rw [ByteArray.size_append, ByteArray.size_append]; show t.size + t5.size + 1 + 10 * (k - 1) ≤ 50; omega, by omega, Hs2, Hg3⟩
      case measure => simp [Lib.intOf]; omega
    · have n9 : ¬ 9223372036854775807 < t.size + 4 := by omega
      have hN7 := srcN g o c cp a' z 12 wr Hs.out (HC.out.grown Hg.out (Nat.le_refl _)) (by omega) hl (by omega) (by omega)
      go_wp2_with fail
      refine hN7.mono ?_
      rintro e w2 ⟨v1, rfl, hv1, hs5, hg6⟩
      have Hs3 := mkHid hs5
      have Hg4 := mkHid (gr_trans Hg.out hg6)
      clear hN7 hs5 hg6 Hs Hg
      go_wp2
      go_loopw [3, 5] (fun tv iv wr => ∃ (k a2 : Nat) (t0 : ByteArray), iv = .int .i64 k ∧ tv = .string t0 ∧ t0.size + 30 * k ≤ 400 ∧ a2 + 20 * k ≤ a + 300 ∧ Hid (Src wr g o c.length cp a2 z) ∧ Hid (w.grownBy wr (some g))) (fun _ iv _ => (Lib.intOf iv).toNat)
      case atStart => exact ⟨v1, (a' + 1), _, by go_num, rfl, by rw [ByteArray.size_append]; show t.size + 4 + 30 * v1 ≤ 400; omega, by omega, Hs3, Hg4⟩
      case round =>
        clear Hs3 Hg4 n9
        obtain ⟨k9, a2, t0, rfl, rfl, hts0, hak2, Hs, Hg⟩ := hrel
        by_cases hk9 : 0 < k9
        · have HCW : Hid (Code g wr o c) := HC.out.grown Hg.out (Nat.le_refl _)
          have hgr0 : g < wr.heap.size := Hs.out.lt
          have HG : Hid (GoneBy wr g o c.length cp a2 z 0 wr.drew) := ⟨gr_below (Below.refl _ _).drew, a2, by omega, Hs.out.below (Below.refl _ _).drew⟩
          go_wp2
          obtain ⟨W0, hW0⟩ : ∃ V, V = wr := ⟨_, rfl⟩
          subst hW0
          refine wp_region_any (by kernel_rfl) ?_
          refine wpAny_phase 13 1 #[true, true, true, true, true, true, true, true, true, true, true, true, true, false] pmDst (fun x => pmAct [_, _, _, _, _, _, _, _, _, _, _, _, _, _, _, _, _, _, _, _, _, _, _, _, _, _, _, _] x [_]) (pmFact t0 g W0.heap.size) (GoneBy W0 g o c.length cp a2 z) (fun w w' => w.grownBy w' (some g)) rfl rfl (by decide) rfl (by kernel_rfl) (by kernel_rfl) ?_ (pmFact.gr hgr0) ?hend ?hstep _ _ 0 (fun j => match j with | 28 => u28 | 29 => u29 | 30 => u30 | 31 => u31 | 32 => u32 | 33 => u33 | 34 => u34 | 35 => u35 | 36 => u36 | 37 => u37 | 38 => u38 | 39 => u39 | 40 => u40 | _ => undef) _ rfl rfl rfl (by intro j hj; simp [Array.getD]) ?_ HG.out ?_
          · intro i j hi hj hne
            have e1 : ∀ q, q < 13 → ∀ r, r < 13 → q ≠ r → pmDst q ≠ pmDst r := by decide
            exact e1 j hj i hi hne
          case hend =>
            intro x wq hG hf
            obtain ⟨t9, e, hz9⟩ := hf 12 (by decide)
            have e2 : x 40 = .string t9 := e
            obtain ⟨hgq, a3, ha3, hs3⟩ := hG
            have Hs3 := mkHid hs3
            have Hg3 := mkHid (gr_trans Hg.out hgq)
            clear hf e hs3 hgq
            dsimp only [pmAct]
            rw [e2]
            generalize x 28 = y28
            generalize x 29 = y29
            generalize x 30 = y30
            generalize x 31 = y31
            generalize x 32 = y32
            generalize x 33 = y33
            generalize x 34 = y34
            generalize x 35 = y35
            generalize x 36 = y36
            generalize x 37 = y37
            generalize x 38 = y38
            generalize x 39 = y39
            clear e2
            go_simp
            refine wpAny_ready (rs := [13]) (by kernel_rfl) (by simp) ?_
            refine AllReady.cons rfl (fun K hK => ?_) AllReady.nil
            go_simp
            refine hK _ _ ?_
            clear hK K
            go_simp
            refine wpAny_done (by kernel_rfl) ?_ _
            go_simp
            go_wp2
            go_roundw
            case rel => exact ⟨k9 - 1, a3, t9, by go_num, rfl, by omega, by omega, Hs3, Hg3⟩
            case measure => simp [Lib.intOf]; omega
          case hstep =>
            intro k2 x L wr i hil hkl hG hi hf
            rcases (show i = 0 ∨ i = 1 ∨ i = 2 ∨ i = 3 ∨ i = 4 ∨ i = 5 ∨ i = 6 ∨ i = 7 ∨ i = 8 ∨ i = 9 ∨ i = 10 ∨ i = 11 ∨ i = 12 by omega) with rfl | rfl | rfl | rfl | rfl | rfl | rfl | rfl | rfl | rfl | rfl | rfl | rfl
            · clear hi hf
              refine wpOp_step rfl (fun K hK => ?_)
              go_simp
              exact hK _ _ ⟨.string t0, by simp [put, pmDst], rfl, gr_refl _ _, hG.still (Below.refl _ _)⟩
            · clear hi hf
              refine wpOp_step rfl (fun K hK => ?_)
              go_simp
              have hbb : ∀ cs, Below wr.heap.size wr (wr.alloc (.cells cs 9)) := fun cs => (Below.refl _ _).alloc (Nat.le_refl _) _
              refine hK _ _ ⟨.slice (some ⟨wr.heap.size, 0, none⟩) 12 12, by simp [put, pmDst], ⟨_, rfl, hG.1.size, ?_⟩, gr_below (hbb _), hG.still (hbb _)⟩
              intro k hk
              exact tabM_get (by simpa using hk) (by decide)
            · clear hi hf
              refine wpOp_step rfl (fun K hK => ?_)
              go_simp
              exact hK _ _ ⟨.pointer (some ⟨g, 0, none⟩), by simp [put, pmDst], rfl, gr_refl _ _, hG.still (Below.refl _ _)⟩
            · have e0 : x 30 = .pointer (some ⟨g, 0, none⟩) := hf 2 (by omega) (ready_dep hi rfl 2 (by kernel_rfl))
              clear hi hf
              obtain ⟨hgr, a1, ha1, hs1⟩ := hG
              have hN := srcN g o c cp a1 z 12 wr hs1 (HCW.out.grown hgr (Nat.le_refl _)) (by omega) hl (by omega) (by omega)
              refine wpOp_step rfl (fun K hK => ?_)
              go_simp
              refine hN.mono ?_
              rintro e w2 ⟨v, rfl, hv, hs2, hg2⟩
              go_simp
              exact hK _ _ ⟨.int .i64 (v : Int), by simp [put, pmDst, e0], ⟨v, rfl, Nat.zero_le _, by omega⟩, hg2, gr_trans hgr hg2, a1 + 1, by omega, hs2⟩
            · have f0 := hf 1 (by omega) (ready_dep hi rfl 1 (by kernel_rfl))
              have f2 := hf 3 (by omega) (ready_dep hi rfl 3 (by kernel_rfl))
              clear hi hf
              obtain ⟨b, e0, hb, ht⟩ := f0
              obtain ⟨k2, e1, -, hk⟩ := f2
              obtain ⟨t, hc, hts⟩ := ht k2 hk
              have hk3 : (k2 : Int) < 12 := by omega
              have e0' : x 29 = .slice (some ⟨b, 0, none⟩) 12 12 := e0
              have e1' : x 31 = .int .i64 k2 := e1
              clear e0 e1 ht
              refine wpOp_step rfl (fun K hK => ?_)
              go_simp
              exact hK _ _ ⟨.pointer (some ⟨b, k2, none⟩), by simp [put, pmDst, e0', e1'], ⟨b, k2, t, rfl, hb, hc, hts⟩, gr_refl _ _, hG.still (Below.refl _ _)⟩
            · have f3 := hf 4 (by omega) (ready_dep hi rfl 4 (by kernel_rfl))
              clear hi hf
              obtain ⟨b, k2, t, e0, hb, hc, hts⟩ := f3
              have e0' : x 32 = .pointer (some ⟨b, k2, none⟩) := e0
              clear e0
              refine wpOp_step rfl (fun K hK => ?_)
              go_simp
              exact hK _ _ ⟨.string t, by simp [put, pmDst, e0'], ⟨t, rfl, hts⟩, gr_refl _ _, hG.still (Below.refl _ _)⟩
            · have e1' : x 28 = .string t0 := hf 0 (by omega) (ready_dep hi rfl 0 (by kernel_rfl))
              have f2 := hf 5 (by omega) (ready_dep hi rfl 5 (by kernel_rfl))
              clear hi hf
              obtain ⟨t2, e2, hz2⟩ := f2
              have e2' : x 33 = .string t2 := e2
              clear e2
              have n0 : ¬ 9223372036854775807 < t0.size + t2.size := by omega
              refine wpOp_step rfl (fun K hK => ?_)
              go_simp
              exact hK _ _ ⟨.string (t0 ++ t2), by simp [put, pmDst, e1', e2'], ⟨_, rfl, by rw [ByteArray.size_append]; omega⟩, gr_refl _ _, hG.still (Below.refl _ _)⟩
            · clear hi hf
              refine wpOp_step rfl (fun K hK => ?_)
              go_simp
              have hbb : ∀ cs, Below wr.heap.size wr (wr.alloc (.cells cs 9)) := fun cs => (Below.refl _ _).alloc (Nat.le_refl _) _
              refine hK _ _ ⟨.slice (some ⟨wr.heap.size, 0, none⟩) 4 4, by simp [put, pmDst], ⟨_, rfl, hG.1.size, ?_⟩, gr_below (hbb _), hG.still (hbb _)⟩
              intro k hk
              exact tabM_get (by simpa using hk) (by decide)
            · clear hi hf
              refine wpOp_step rfl (fun K hK => ?_)
              go_simp
              exact hK _ _ ⟨.pointer (some ⟨g, 0, none⟩), by simp [put, pmDst], rfl, gr_refl _ _, hG.still (Below.refl _ _)⟩
            · have e0 : x 36 = .pointer (some ⟨g, 0, none⟩) := hf 8 (by omega) (ready_dep hi rfl 8 (by kernel_rfl))
              clear hi hf
              obtain ⟨hgr, a1, ha1, hs1⟩ := hG
              have hN := srcN g o c cp a1 z 4 wr hs1 (HCW.out.grown hgr (Nat.le_refl _)) (by omega) hl (by omega) (by omega)
              refine wpOp_step rfl (fun K hK => ?_)
              go_simp
              refine hN.mono ?_
              rintro e w2 ⟨v, rfl, hv, hs2, hg2⟩
              go_simp
              exact hK _ _ ⟨.int .i64 (v : Int), by simp [put, pmDst, e0], ⟨v, rfl, Nat.zero_le _, by omega⟩, hg2, gr_trans hgr hg2, a1 + 1, by omega, hs2⟩
            · have f0 := hf 7 (by omega) (ready_dep hi rfl 7 (by kernel_rfl))
              have f2 := hf 9 (by omega) (ready_dep hi rfl 9 (by kernel_rfl))
              clear hi hf
              obtain ⟨b, e0, hb, ht⟩ := f0
              obtain ⟨k2, e1, -, hk⟩ := f2
              obtain ⟨t, hc, hts⟩ := ht k2 hk
              have hk3 : (k2 : Int) < 4 := by omega
              have e0' : x 35 = .slice (some ⟨b, 0, none⟩) 4 4 := e0
              have e1' : x 37 = .int .i64 k2 := e1
              clear e0 e1 ht
              refine wpOp_step rfl (fun K hK => ?_)
              go_simp
              exact hK _ _ ⟨.pointer (some ⟨b, k2, none⟩), by simp [put, pmDst, e0', e1'], ⟨b, k2, t, rfl, hb, hc, hts⟩, gr_refl _ _, hG.still (Below.refl _ _)⟩
            · have f3 := hf 10 (by omega) (ready_dep hi rfl 10 (by kernel_rfl))
              clear hi hf
              obtain ⟨b, k2, t, e0, hb, hc, hts⟩ := f3
              have e0' : x 38 = .pointer (some ⟨b, k2, none⟩) := e0
              clear e0
              refine wpOp_step rfl (fun K hK => ?_)
              go_simp
              exact hK _ _ ⟨.string t, by simp [put, pmDst, e0'], ⟨t, rfl, hts⟩, gr_refl _ _, hG.still (Below.refl _ _)⟩
            · have f1 := hf 6 (by omega) (ready_dep hi rfl 6 (by kernel_rfl))
              have f2 := hf 11 (by omega) (ready_dep hi rfl 11 (by kernel_rfl))
              clear hi hf
              obtain ⟨t1, e1, hz1⟩ := f1
              have e1' : x 34 = .string t1 := e1
              clear e1
              obtain ⟨t2, e2, hz2⟩ := f2
              have e2' : x 39 = .string t2 := e2
              clear e2
              have n0 : ¬ 9223372036854775807 < t1.size + t2.size := by omega
              refine wpOp_step rfl (fun K hK => ?_)
              go_simp
              exact hK _ _ ⟨.string (t1 ++ t2), by simp [put, pmDst, e1', e2'], ⟨_, rfl, by rw [ByteArray.size_append]; omega⟩, gr_refl _ _, hG.still (Below.refl _ _)⟩
          · intro k2 j hk2
            simp [Array.getD] at hk2
          · intro j hj hd
            simp [Array.getD] at hd
        · go_wp2
          go_ret
          exact ⟨t0, a2, rfl, by omega, by omega, Hs.out, Hg.out⟩
end Go.Proofs.YtillilllceeonaaDoor
