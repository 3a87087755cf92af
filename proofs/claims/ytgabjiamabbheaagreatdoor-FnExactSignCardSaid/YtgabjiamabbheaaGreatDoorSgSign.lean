
/- Fields put ahead of a message, on both sides. -/

/- Sign, plainly. -/
import Derived.Test.YtgabjiamabbheaaGreatDoorImplWriteHead
import Derived.Test.YtgabjiamabbheaaGreatDoorSgRead
import Derived.Test.YtgabjiamabbheaaGreatDoorSgPlain3
import Derived.Test.YtgabjiamabbheaaGreatDoorSgImpl1
import Derived.Test.YtgabjiamabbheaaGreatDoorSumSpec
namespace Go.Proofs.YtgabjiamabbheaaGreatDoor
open Go.RowKit Go.Lib
/-- A message with a head ahead of it. -/
def Pl.added (t m : ByteArray) : ByteArray := if t.toList = [] then ⟨#[]⟩ else if 100000 < t.size + m.size then ⟨#[]⟩ else t ++ m
set_option maxRecDepth 20000 in
set_option maxHeartbeats 1000000 in
theorem specAdd (m t : ByteArray) (v : Value) (w : World) (hm : m.size ≤ 1048576) (ht : t.size ≤ 100000) (hS : ∀ w1, w1 = w → Calls Tryz.prog 46 #[v] w1 fun e w' => e = .returned (.string t) ∧ Below w1.heap.size w1 w') :
    Calls Tryz.prog 18 #[.string m, v] w fun e w' => e = .returned (.string (Pl.added t m)) ∧ Below w.heap.size w w' := by
  unfold Pl.added
  split
  · rename_i h0
    go_enter Tryz.func18, Tryz.ntmps18
    go_wp2_with fail
    refine (hS _ rfl).mono ?_
    rintro e w1 ⟨rfl, hb1⟩
    go_wp2
    go_ret
    exact ⟨rfl, hb1⟩
  · rename_i h0
    have h0' : t.toList ≠ [] := h0
    split
    · rename_i hl
      by_cases hm1 : 100000 < m.size
      · go_enter Tryz.func18, Tryz.ntmps18
        go_wp2_with fail
        refine (hS _ rfl).mono ?_
        rintro e w1 ⟨rfl, hb1⟩
        go_wp2
        go_ret
        exact ⟨rfl, hb1⟩
      · go_enter Tryz.func18, Tryz.ntmps18
        go_wp2_with fail
        refine (hS _ rfl).mono ?_
        rintro e w1 ⟨rfl, hb1⟩
        go_wp2
        go_ret
        exact ⟨rfl, hb1⟩
    · rename_i hl
      have hm1 : ¬ 100000 < m.size := by omega
      have h0b : t.toList.isEmpty = false := by cases h : t.toList <;> simp_all
      go_enter Tryz.func18, Tryz.ntmps18
      go_wp2_with fail
      refine (hS _ rfl).mono ?_
      rintro e w1 ⟨rfl, hb1⟩
      go_wp2
      go_ret
      exact ⟨rfl, hb1⟩
set_option maxRecDepth 20000 in
set_option maxHeartbeats 1000000 in
theorem implWritten (t m : ByteArray) (bk : Nat) (w : World) (hm : m.size ≤ 1048576) (ht : t.size ≤ 100000) (hbk : bk < w.heap.size) (h0 : w.cell? ⟨bk, 0, none⟩ = some (.string t)) (h1 : w.cell? ⟨bk, 1, none⟩ = some (.string m)) :
    Calls Tryz.prog 60 #[.slice (some ⟨bk, 0, none⟩) 2 2] w fun e w' => e = .returned (.string (if 100000 < t.size + m.size then ⟨#[]⟩ else t ++ m)) ∧ Below w.heap.size w w' := by
  have hJ := Tryz.strings_Join bk 0 2 [t, m] ⟨#[]⟩ w (by intro j x hj; match j, hj with | 0, hj => cases hj; exact h0 | 1, hj => cases hj; exact h1) hbk (by simp) (by simp) (by simp [Lib.join]; omega)
  have HJ : Hid (Calls Tryz.prog 62 #[.slice (some ⟨bk, 0, none⟩) 2 2, .string ⟨#[]⟩] w fun e w' => e = .returned (.string (t ++ m)) ∧ Below w.heap.size w w') := by
    refine hJ.mono ?_
    rintro e w' ⟨rfl, hb⟩
    exact ⟨by simp [Lib.join]; rfl, hb⟩
  clear hJ
  have hsum : ∀ l : Bool, decide ((100000 : Int) < (t.size : Int) + (m.size : Int)) = l → Calls Tryz.prog 60 #[.slice (some ⟨bk, 0, none⟩) 2 2] w fun e w' => e = .returned (.string (if l then ⟨#[]⟩ else t ++ m)) ∧ Below w.heap.size w w' := by
    intro l hl
    have HL : Hid (decide ((100000 : Int) < (t.size : Int) + (m.size : Int)) = l) := hl
    clear hl
    go_enter Tryz.func60, Tryz.ntmps60
    go_wp2
    go_loopw [3, 8] (fun s i wr => ((s = .int .i64 0 ∧ i = .int .i64 0) ∨ (s = .int .i64 t.size ∧ i = .int .i64 1) ∨ (s = .int .i64 ((t.size : Int) + (m.size : Int)) ∧ i = .int .i64 2)) ∧ wr = w) (fun _ i _ => 2 - (Lib.intOf i).toNat)
    case atStart => exact ⟨.inl ⟨rfl, rfl⟩, rfl⟩
    case round =>
      obtain ⟨h, rfl⟩ := hrel
      rcases h with ⟨rfl, rfl⟩ | ⟨rfl, rfl⟩ | ⟨rfl, rfl⟩
      · go_wp2
        go_roundw
        case rel => exact ⟨.inr (.inl ⟨by go_num, by go_num⟩), trivial⟩
        case measure => simp [Lib.intOf]
      · go_wp2
        go_roundw
        case rel => exact ⟨.inr (.inr ⟨by go_num, by go_num⟩), trivial⟩
        case measure => simp [Lib.intOf]
      · cases l
        · have hl := HL.out
          go_wp2_with fail
          refine HJ.out.mono ?_
          rintro e w2 ⟨rfl, hb⟩
          go_wp2
          go_ret
          exact ⟨rfl, hb⟩
        · have hl := HL.out
          go_wp2
          go_ret
          exact ⟨rfl, Below.refl _ _⟩
  have := hsum _ rfl
  split
  · rename_i hl
    rw [decide_eq_true (show (100000 : Int) < (t.size : Int) + (m.size : Int) by omega)] at this
    exact this
  · rename_i hl
    rw [decide_eq_false (show ¬ (100000 : Int) < (t.size : Int) + (m.size : Int) by omega)] at this
    exact this
set_option maxRecDepth 20000 in
set_option maxHeartbeats 1000000 in
theorem implAdd (m t : ByteArray) (v : Value) (w : World) (hm : m.size ≤ 1048576) (ht : t.size ≤ 100000) (hS : ∀ w1, w1 = w → Calls Tryz.prog 68 #[v] w1 fun e w' => e = .returned (.string t) ∧ Below w1.heap.size w1 w') :
    Calls Tryz.prog 27 #[.string m, v] w fun e w' => e = .returned (.string (Pl.added t m)) ∧ Below w.heap.size w w' := by
  unfold Pl.added
  split
  · rename_i h0
    go_enter Tryz.func27, Tryz.ntmps27
    go_wp2_with fail
    refine (hS _ rfl).mono ?_
    rintro e w1 ⟨rfl, hb1⟩
    go_wp2
    go_ret
    exact ⟨rfl, hb1⟩
  · rename_i h0
    have h0b : t.toList.isEmpty = false := by cases h : t.toList <;> simp_all
    have hI := fun bk w hbk h0 h1 => implWritten t m bk w hm ht hbk h0 h1
    generalize (if 100000 < t.size + m.size then (⟨#[]⟩ : ByteArray) else t ++ m) = r at hI ⊢
    go_enter Tryz.func27, Tryz.ntmps27
    go_wp2_with fail
    refine (hS _ rfl).mono ?_
    rintro e w1 ⟨rfl, hb1⟩
    have hbA := hb1.alloc hb1.size (.cells #[.string t, .string m] 9)
    go_wp2_with fail
    refine (hI w1.heap.size _ (by simp) (by simp) (by simp)).mono ?_
    rintro e w2 ⟨rfl, hb2⟩
    have hb3 := hbA.trans (hb2.mono hbA.size)
    go_wp2
    go_ret
    exact ⟨rfl, hb3⟩
end Go.Proofs.YtgabjiamabbheaaGreatDoor
namespace Go.Proofs.YtgabjiamabbheaaGreatDoor
open Go.RowKit Go.Lib Go.Maps
set_option maxRecDepth 20000 in
theorem fsum_toBA (F : List Fl) : fsum (toBA F) = flsum F := by
  unfold fsum toBA flsum fsz
  rw [List.map_map]
  congr 1
set_option maxRecDepth 20000 in
theorem fl_size (F : List Fl) (n : Nat) (h : flsum F ≤ n) : ∀ f ∈ F, f.1.length + 3 ≤ n ∧ f.2.length + 3 ≤ n := by
  intro f hf
  have : f.1.length + f.2.length + 3 ≤ flsum F := by
    unfold flsum
    clear h
    induction F with
    | nil => cases hf
    | cons a r ih =>
      rw [List.map_cons, List.sum_cons]
      rcases List.mem_cons.1 hf with rfl | hf
      · omega
      · have := ih hf
        omega
  omega
set_option maxRecDepth 20000 in
theorem sm_lt (A x : Nat) : ∀ (l : List UInt8), x < 2147483647 → Ps.sm A x l < 2147483647 := by
  intro l hx
  exact Ps.sm_lt A l x hx
/-- The text that the head's sum is of. -/
def sgText (M : List ByteArray) (h : Int) (L : List Fd) (v : ByteArray) : ByteArray := ⟨(tkL h M L).toArray⟩ ++ ownB v h
def sgBody (msg : ByteArray) (b : Int) : ByteArray := canonAny (msg.extract (RH msg).body msg.size) b
def sgFront (msg d s : ByteArray) (A B : Nat) (M : List ByteArray) (h b : Int) : ByteArray := frontT d s M h b (Ps.sm A 1 (sgBody msg b).data.toList) (Ps.sm B 1 (sgBody msg b).data.toList)
def sgHead (msg d s : ByteArray) (A B : Nat) (M : List ByteArray) (h b : Int) : ByteArray := sgText M h (toBA (RH msg).fields) (sgFront msg d s A B M h b)
def sgValue (msg d s : ByteArray) (A B : Nat) (M : List ByteArray) (h b : Int) : ByteArray := sgFront msg d s A B M h b ++ sumT (Ps.sm A 1 (sgHead msg d s A B M h b).data.toList) (Ps.sm B 1 (sgHead msg d s A B M h b).data.toList)
def plSign (msg d s : ByteArray) (A B : Int) (M : List ByteArray) (h b : Int) : ByteArray :=
  if signerOk d s A B M h b = true ∧ (RH msg).code = 0 ∧ ¬ (RH msg).fields.length = 200 then Pl.added ⟨(Pl.hd [] [(sgName, sgValue msg d s A.toNat B.toNat M h b)]).toArray⟩ msg else ⟨#[]⟩
end Go.Proofs.YtgabjiamabbheaaGreatDoor
