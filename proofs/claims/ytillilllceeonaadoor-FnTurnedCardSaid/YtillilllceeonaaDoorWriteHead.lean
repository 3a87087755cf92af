
/- The kinds: none of a line end's bytes; a blank. -/

/- The walks of the two Unfold. -/

/- Plain mathematics of WriteHead; a slice of bytes beside a variable. -/

/- The tests for a field's name and value. -/

/- The walks of the two WriteHead. -/
import Derived.Test.YtillilllceeonaaDoorDateParts
import Derived.Test.YtillilllceeonaaDoorDraw
import Derived.Test.YtillilllceeonaaDoorAlRow
namespace Go.Proofs.YtillilllceeonaaDoor
open Go.RowKit Go.Lib
end Go.Proofs.YtillilllceeonaaDoor
namespace Go.Proofs.YtillilllceeonaaDoor
open Go.RowKit Go.Lib
set_option maxRecDepth 20000 in
set_option maxHeartbeats 400000 in
theorem specFold3 (s : ByteArray) (k : Nat) (w : World) (_hs : s.size ≤ 1100000) (_hk : k ≤ s.size) :
    Calls Tryd.prog 56 #[.string s, .int .i64 k] w fun e w' => e = .returned (.bool (Pl.fold s.data.toList k)) ∧ w = w' := by
  by_cases h2 : k + 2 < s.size
  · by_cases h0 : ((s[k].toNat : Int) == 13) = true
    · by_cases h1 : ((s[k + 1].toNat : Int) == 10) = true
      · rw [show Pl.fold s.data.toList k = Pl.blank s[k + 2] from by
          rw [Pl.fold, (Pl.crlf_iff _ _).2 ⟨by simp; omega, Pl.byte_eq _ 13 _ rfl h0, Pl.byte_eq _ 10 _ rfl h1⟩, Pl.blankAt_lt _ _ (by simpa using h2)]; rfl]
        go_enter Tryd.func56, Tryd.ntmps56
        go_wp2_with (go_at_call 70; go_must (refine (specBlank s[k + 2] _).mono ?_; rintro e w2 ⟨rfl, rfl⟩))
        go_ret
        exact ⟨rfl, rfl⟩
      · rw [Bool.not_eq_true] at h1
        rw [show Pl.fold s.data.toList k = false from by
          rw [Bool.eq_false_iff]; intro e; obtain ⟨h, -, e1, -⟩ := (Pl.fold_iff _ _).1 e; exact Pl.byte_ne _ 10 _ rfl h1 e1]
        go_enter Tryd.func56, Tryd.ntmps56
        go_wp2
        go_ret
        exact ⟨rfl, rfl⟩
    · rw [Bool.not_eq_true] at h0
      rw [show Pl.fold s.data.toList k = false from by
        rw [Bool.eq_false_iff]; intro e; obtain ⟨h, e0, -, -⟩ := (Pl.fold_iff _ _).1 e; exact Pl.byte_ne _ 13 _ rfl h0 e0]
      go_enter Tryd.func56, Tryd.ntmps56
      go_wp2
      go_ret
      exact ⟨rfl, rfl⟩
  · rw [show Pl.fold s.data.toList k = false from by rw [Pl.fold, Pl.blankAt_ge _ (k + 2) (by simp; omega), Bool.and_false]]
    go_enter Tryd.func56, Tryd.ntmps56
    go_wp2
    go_ret
    exact ⟨rfl, rfl⟩
end Go.Proofs.YtillilllceeonaaDoor
namespace Go.Proofs.YtillilllceeonaaDoor
namespace Pl
/-- A byte of a field's name. -/
def nb (c : UInt8) : Bool := decide (33 ≤ c.toNat) && (decide (c.toNat ≤ 126) && !(c == 58))
def nameOk (l : List UInt8) : Bool := !l.isEmpty && (decide (l.length ≤ 70) && l.all nb)
def okF (f : ByteArray × ByteArray) : Bool := decide (f.2.size ≤ 100000) && (nameOk f.1.data.toList && val f.2.data.toList)
def line (f : ByteArray × ByteArray) : List UInt8 := f.1.data.toList ++ [58] ++ f.2.data.toList ++ [13, 10]
/-- What is written behind what is there. -/
def hd : List UInt8 → List (ByteArray × ByteArray) → List UInt8
  | out, [] => out
  | out, f :: r => if okF f then (if 100000 < (out ++ line f).length then [] else hd (out ++ line f) r) else []
set_option maxRecDepth 20000 in
theorem hd_bad (p x : List UInt8) (F : List (ByteArray × ByteArray)) (k : Nat) (hk : k < F.length) (h : okF F[k] = false) (hp : hd p (F.drop k) = x) : x = [] := by
  rw [List.drop_eq_getElem_cons hk, hd, if_neg (by rw [h]; simp)] at hp
  exact hp.symm
set_option maxRecDepth 20000 in
theorem hd_long (p x : List UInt8) (F : List (ByteArray × ByteArray)) (k : Nat) (hk : k < F.length) (h : okF F[k] = true) (hl : 100000 < (p ++ line F[k]).length) (hp : hd p (F.drop k) = x) : x = [] := by
  rw [List.drop_eq_getElem_cons hk, hd, if_pos h, if_pos hl] at hp
  exact hp.symm
set_option maxRecDepth 20000 in
theorem hd_step (p x : List UInt8) (F : List (ByteArray × ByteArray)) (k : Nat) (hk : k < F.length) (h : okF F[k] = true) (hl : ¬ 100000 < (p ++ line F[k]).length) (hp : hd p (F.drop k) = x) : hd (p ++ line F[k]) (F.drop (k + 1)) = x := by
  rw [List.drop_eq_getElem_cons hk, hd, if_pos h, if_neg hl] at hp
  exact hp
set_option maxRecDepth 20000 in
theorem hd_done (p x : List UInt8) (F : List (ByteArray × ByteArray)) (k : Nat) (hk : F.length ≤ k) (hp : hd p (F.drop k) = x) : x = p := by
  rw [List.drop_eq_nil_of_le hk, hd] at hp
  exact hp.symm
set_option maxRecDepth 20000 in
theorem okF_size (f : ByteArray × ByteArray) (h : ¬ f.2.size ≤ 100000) : okF f = false := by simp [okF, h]
set_option maxRecDepth 20000 in
theorem okF_name (f : ByteArray × ByteArray) (h : nameOk f.1.data.toList = false) : okF f = false := by simp [okF, h]
set_option maxRecDepth 20000 in
theorem okF_val (f : ByteArray × ByteArray) (h : val f.2.data.toList = false) : okF f = false := by simp [okF, h]
set_option maxRecDepth 20000 in
theorem okF_mk (f : ByteArray × ByteArray) (h : f.2.size ≤ 100000) (h1 : nameOk f.1.data.toList = true) (h2 : val f.2.data.toList = true) : okF f = true := by simp [okF, h, h1, h2]
set_option maxRecDepth 20000 in
theorem nameOk_size (f : ByteArray) (h : nameOk f.data.toList = true) : f.size ≤ 70 := by
  simp [nameOk] at h
  exact h.2.1
set_option maxRecDepth 20000 in
theorem line_len (f : ByteArray × ByteArray) : (line f).length = f.1.size + f.2.size + 3 := by simp [line]; omega
end Pl
open Go.RowKit Go.Lib
set_option maxRecDepth 20000 in
/-- A block of another type lies beside the bytes. -/
theorem Own.beside {B : Nat} {v : Value} {p : List UInt8} {w : World} (h : Own B v p w) {fv : Nat} {cs : Array Value} {t : TypeId} {z : Nat × Nat} (ht : t ≠ 5) (hf : w.heap[fv]? = some (.cells cs t z)) : v.ownBlock ≠ some fv := by
  intro e
  rcases h.2 with ⟨rfl, -⟩ | ⟨g, cap, cur, rfl, -, hg, -⟩
  · cases e
  · cases e
    rw [hf] at hg
    simp only [Option.some.injEq, Obj.cells.injEq] at hg
    exact ht hg.2.1
set_option maxRecDepth 20000 in
theorem grown_beside {w w' : World} {row : Option Nat} (hg : w.grownBy w' row) {fv : Nat} {ob : Obj} (hf : w.heap[fv]? = some ob) (hne : row ≠ some fv) : w'.heap[fv]? = some ob := by
  have hlt : fv < w.heap.size := by
    by_cases h : fv < w.heap.size
    · exact h
    · rw [Array.getElem?_eq_none (by omega)] at hf; cases hf
  rw [← hf]
  exact hg.block fv hlt (fun e => hne e.symm)
set_option maxRecDepth 20000 in
/-- An append of some bytes, beside a variable. -/
theorem wp_app_v {P : Program} {W w : World} {ops : Array Oper} {rest : List Oper} {o : Oper} {a : Act} {Q : Exit → Act → World → Prop} (hgd : o.guard = none) (s x : Operand) (t : TypeId)
    (ho : o.op = .call { callee := .builtin .append, args := #[s, x], argTypes := #[t, t] })
    (i : TypeInfo) (ht : P.underlying t = some (.slice 5)) (hi : P.info? 5 = some i) (hz : i.zero = some (.int .u8 0)) (hsize : i.size = 1) (hby : i.bytes = 1)
    (B : Nat) (v : Value) (p : List UInt8) (hs : a.eval s = v) (hown : Own B v p w) (cs : Array Value) (news : List UInt8) (hcs : cs.toList = byteCells news)
    (n c : Nat) (hn : n = news.length) (hx : a.eval x = .slice (some ⟨w.heap.size, 0, none⟩) n c) (hlen : p.length + news.length ≤ 140737488355328) (hB : B ≤ W.heap.size) (hb : Below B W w)
    (fv : Nat) (ob : Array Value) (tv : TypeId) (z : Nat × Nat) (htv : tv ≠ 5) (hfv : w.heap[fv]? = some (.cells ob tv z))
    (h : ∀ v' w', Own B v' (p ++ news) w' → Below B W w' → w'.heap[fv]? = some (.cells ob tv z) → wpList P ops Q rest (a.put o.dst v') w') : wpList P ops Q (o :: rest) a (w.alloc (.cells cs 5)) := by
  subst hn
  have hsz := hb.size
  have hlt : fv < w.heap.size := by
    by_cases h : fv < w.heap.size
    · exact h
    · rw [Array.getElem?_eq_none (by omega)] at hfv; cases hfv
  refine wpList_append_own _ hgd s x t ho B 5 i (.int .u8 0) 1 1 ht hi hz hsize hby rfl (by decide) v p.length (byteCells p) hs (hown.alloc _) ⟨w.heap.size, 0, none⟩ news.length c (byteCells news) hx
    (by rw [byteCells_length, Nat.mul_one]) ?_ ?_ (by unfold maxLen; omega) (by omega) (by simp; omega) ?_
  · intro j u hj
    have e2 : cs[j]? = some u := by rw [← Array.getElem?_toList, hcs]; exact hj
    rw [add_off]
    simp [e2]
  · intro u hu
    simp only [byteCells, List.mem_map] at hu
    obtain ⟨b, -, rfl⟩ := hu
    rfl
  · intro v' w' h1 h2 _
    refine h v' w' ?_ ?_ ?_
    · unfold Own
      rw [byteCells_append, List.length_append]
      exact h1
    · exact (hb.alloc (by omega) _).grown h2 (by simp; omega) (fun k hk => (World.ownsRow.lt hown k hk).1)
    · exact grown_beside h2 ((Below.heap_alloc w _ fv hlt).trans hfv) (hown.beside htv hfv)
set_option maxRecDepth 20000 in
/-- An append of a text, beside a variable. -/
theorem wp_apps_v {P : Program} {W w : World} {ops : Array Oper} {rest : List Oper} {o : Oper} {a : Act} {Q : Exit → Act → World → Prop} (hgd : o.guard = none) (s x : Operand) (t u : TypeId)
    (ho : o.op = .call { callee := .builtin .append, args := #[s, x], argTypes := #[t, u] })
    (i : TypeInfo) (ht : P.underlying t = some (.slice 5)) (hu : P.underlying u = some .string) (hi : P.info? 5 = some i) (hz : i.zero = some (.int .u8 0)) (hsize : i.size = 1) (hby : i.bytes = 1)
    (B : Nat) (v : Value) (p : List UInt8) (hs : a.eval s = v) (hown : Own B v p w) (news : ByteArray)
    (hx : a.eval x = .string news) (hlen : p.length + news.size ≤ 140737488355328) (hB : B ≤ W.heap.size) (hb : Below B W w)
    (fv : Nat) (ob : Array Value) (tv : TypeId) (z : Nat × Nat) (htv : tv ≠ 5) (hfv : w.heap[fv]? = some (.cells ob tv z))
    (h : ∀ v' w', Own B v' (p ++ news.data.toList) w' → Below B W w' → w'.heap[fv]? = some (.cells ob tv z) → wpList P ops Q rest (a.put o.dst v') w') : wpList P ops Q (o :: rest) a w := by
  have hsz := hb.size
  refine wpList_append_own_string _ hgd s x t u ho B 5 i ht hu hi hz hsize hby v p.length (byteCells p) hs hown news hx (by unfold maxLen; omega) hlen (by omega) ?_
  intro v' w' h1 h2 _
  refine h v' w' ?_ ?_ ?_
  · unfold Own
    rw [byteCells_append, List.length_append]
    exact h1
  · exact hb.grown h2 (by omega) (fun k hk => (World.ownsRow.lt hown k hk).1)
  · exact grown_beside h2 hfv (hown.beside htv hfv)
end Go.Proofs.YtillilllceeonaaDoor
namespace Go.Proofs.YtillilllceeonaaDoor
open Go.RowKit Go.Lib
set_option maxRecDepth 20000 in
theorem nb_cases (c : UInt8) : c.toNat < 33 ∧ Pl.nb c = false ∨ 33 ≤ c.toNat ∧ 126 < c.toNat ∧ Pl.nb c = false ∨ 33 ≤ c.toNat ∧ c.toNat ≤ 126 ∧ ((c.toNat : Int) == 58) = true ∧ Pl.nb c = false ∨ 33 ≤ c.toNat ∧ c.toNat ≤ 126 ∧ ((c.toNat : Int) == 58) = false ∧ Pl.nb c = true := by
  by_cases h1 : c.toNat < 33
  · exact .inl ⟨h1, by simp [Pl.nb]; omega⟩
  · by_cases h2 : 126 < c.toNat
    · exact .inr (.inl ⟨by omega, h2, by simp [Pl.nb]; omega⟩)
    · cases h3 : ((c.toNat : Int) == 58)
      · refine .inr (.inr (.inr ⟨by omega, by omega, rfl, ?_⟩))
        have := Pl.byte_ne c 58 _ rfl h3
        simp [Pl.nb, this]; omega
      · refine .inr (.inr (.inl ⟨by omega, by omega, rfl, ?_⟩))
        rw [Pl.byte_eq c 58 _ rfl h3]; rfl
set_option maxRecDepth 20000 in
set_option maxHeartbeats 1000000 in
theorem specName (s : ByteArray) (w : World) (_hs : s.size ≤ 1100000) :
    Calls Tryd.prog 44 #[.string s] w fun e w' => e = .returned (.bool (Pl.nameOk s.data.toList)) ∧ w = w' := by
  by_cases h0 : s.size = 0
  · have hE : s.data.toList.isEmpty = true := by
      rw [List.isEmpty_iff]
      exact List.length_eq_zero_iff.1 (by rw [Pl.len_list]; exact h0)
    rw [show Pl.nameOk s.data.toList = false from by simp [Pl.nameOk, hE]]
    clear hE
    go_enter Tryd.func44, Tryd.ntmps44
    go_wp2
    go_ret
    exact ⟨rfl, rfl⟩
  · have hE : s.data.toList.isEmpty = false := by
      rw [List.isEmpty_eq_false_iff]
      intro e
      exact h0 (by rw [← Pl.len_list, e]; rfl)
    by_cases h70 : s.size ≤ 70
    · rw [show Pl.nameOk s.data.toList = s.data.toList.all Pl.nb from by simp [Pl.nameOk, hE, h70]]
      clear hE
      obtain ⟨A, hA⟩ : ∃ A, s.data.toList.all Pl.nb = A := ⟨_, rfl⟩
      rw [hA]
      have HA : Hid ((s.data.toList.drop 0).all Pl.nb = A) := hA
      clear hA
      have hz : ((s.size : Int) == 0) = false := by rw [Bool.eq_false_iff]; intro e; have := beq_iff_eq.1 e; omega
      have hz7 : decide ((70 : Int) < (s.size : Int)) = false := by simp; omega
      go_enter Tryd.func44, Tryd.ntmps44
      go_wp2
      go_loopw [3] (fun i wr => ∃ k : Nat, k ≤ s.size ∧ i = .int .i64 k ∧ Hid ((s.data.toList.drop k).all Pl.nb = A) ∧ wr = w) (fun i _ => s.size - (Lib.intOf i).toNat)
      case atStart => exact ⟨0, Nat.zero_le _, rfl, HA, rfl⟩
      case round =>
        clear HA
        obtain ⟨k, hk, rfl, hp, rfl⟩ := hrel
        by_cases hlt : k < s.size
        · have h8 : s[k].toNat < 256 := UInt8.toNat_lt _
          have hst : Hid ((s.data.toList.drop k).all Pl.nb = (Pl.nb s[k] && (s.data.toList.drop (k + 1)).all Pl.nb)) := Pl.all_step Pl.nb s.data.toList k (by simpa using hlt)
          have bad : Pl.nb s[k] = false → Hid (A = false) := by
            intro h
            have := hst.out
            rw [h, Bool.false_and, hp.out] at this
            exact this
          rcases nb_cases s[k] with ⟨h, hb⟩ | ⟨h, h1, hb⟩ | ⟨h, h1, h2, hb⟩ | ⟨h, h1, h2, hb⟩
          · have hB := bad hb
            clear bad hb hst hp
            go_wp2
            go_ret
            exact ⟨by rw [hB.out]; rfl, rfl⟩
          · have hB := bad hb
            clear bad hb hst hp
            go_wp2
            go_ret
            exact ⟨by rw [hB.out]; rfl, rfl⟩
          · have hB := bad hb
            clear bad hb hst hp
            go_wp2
            go_ret
            exact ⟨by rw [hB.out]; rfl, rfl⟩
          · have hg : Hid ((s.data.toList.drop (k + 1)).all Pl.nb = A) := show _ = _ from by
              have := hst.out
              rw [hb, Bool.true_and, hp.out] at this
              exact this.symm
            clear bad hb hst hp
            go_wp2
            go_roundw
            case rel => exact ⟨k + 1, by omega, by go_num, hg, trivial⟩
            case measure => simp [Lib.intOf]; omega
        · have H0 : Hid (A = true) := show _ = _ from by rw [← hp.out]; exact Pl.all_done Pl.nb _ k (by simp; omega)
          clear hp
          go_wp2
          go_ret
          exact ⟨by rw [H0.out]; rfl, rfl⟩
    · rw [show Pl.nameOk s.data.toList = false from by simp [Pl.nameOk]; omega]
      clear hE
      go_enter Tryd.func44, Tryd.ntmps44
      go_wp2
      go_ret
      exact ⟨rfl, rfl⟩
set_option maxRecDepth 20000 in
set_option maxHeartbeats 1000000 in
theorem specValue (s : ByteArray) (w : World) (hs : s.size ≤ 1100000) :
    Calls Tryd.prog 45 #[.string s] w fun e w' => e = .returned (.bool (Pl.val s.data.toList)) ∧ w = w' := by
  go_enter Tryd.func45, Tryd.ntmps45
  go_wp2
  go_loopw [3] (fun i wr => ∃ k : Nat, k ≤ s.size ∧ i = .int .i64 k ∧ Hid (Pl.val (s.data.toList.drop k) = Pl.val s.data.toList) ∧ wr = w) (fun i _ => s.size - (Lib.intOf i).toNat)
  case atStart => exact ⟨0, Nat.zero_le _, rfl, rfl, rfl⟩
  case round =>
    obtain ⟨k, hk, rfl, hp, rfl⟩ := hrel
    by_cases hlt : k < s.size
    · have h8 : s[k].toNat < 256 := UInt8.toNat_lt _
      have hc := fun w => specFold3 s k w hs hk
      by_cases hf : Pl.fold s.data.toList k = true
      · have h2 : Hid (k + 2 < s.size) := show k + 2 < s.size from by simpa using Pl.fold_lt _ _ hf
        have Hf : Hid (Pl.val (s.data.toList.drop (k + 2)) = Pl.val s.data.toList) := show _ = _ from (Pl.val_fold _ k hf).trans hp.out
        simp only [hf] at hc
        clear hf
        go_wp2_with (go_at_call 56; go_must (refine (hc _).mono ?_; rintro e w2 ⟨rfl, rfl⟩))
        go_roundw
        case rel => exact ⟨k + 2, by have := h2.out; omega, by go_num, Hf, trivial⟩
        case measure => simp [Lib.intOf]; omega
      · rw [Bool.not_eq_true] at hf
        have Hst : Hid (Pl.val s.data.toList = (Pl.lb s[k] && Pl.val (s.data.toList.drop (k + 1)))) := show _ = _ from hp.out.symm.trans (Pl.val_other s.data.toList k (by simpa using hlt) hf)
        simp only [hf] at hc
        clear hf hp
        cases h13 : ((s[k].toNat : Int) == 13)
        · cases h10 : ((s[k].toNat : Int) == 10)
          · have hg : Hid (Pl.val (s.data.toList.drop (k + 1)) = Pl.val s.data.toList) := show _ = _ from by
              rw [Hst.out, show Pl.lb s[k] = true from by simp [Pl.lb, Pl.byte_ne _ 13 _ rfl h13, Pl.byte_ne _ 10 _ rfl h10], Bool.true_and]
            clear Hst
            go_wp2_with (go_at_call 56; go_must (refine (hc _).mono ?_; rintro e w2 ⟨rfl, rfl⟩))
            go_roundw
            case rel => exact ⟨k + 1, by omega, by go_num, hg, trivial⟩
            case measure => simp [Lib.intOf]; omega
          · have hB : Hid (Pl.val s.data.toList = false) := show _ = _ from by rw [Hst.out, Pl.byte_eq _ 10 _ rfl h10]; rfl
            clear Hst
            go_wp2_with (go_at_call 56; go_must (refine (hc _).mono ?_; rintro e w2 ⟨rfl, rfl⟩))
            go_ret
            first | exact ⟨by rw [hB.out]; rfl, rfl⟩ | exact ⟨rfl, rfl⟩
        · have hB : Hid (Pl.val s.data.toList = false) := show _ = _ from by rw [Hst.out, Pl.byte_eq _ 13 _ rfl h13]; rfl
          clear Hst
          go_wp2_with (go_at_call 56; go_must (refine (hc _).mono ?_; rintro e w2 ⟨rfl, rfl⟩))
          go_ret
          first | exact ⟨by rw [hB.out]; rfl, rfl⟩ | exact ⟨rfl, rfl⟩
    · have H0 : Hid (Pl.val s.data.toList = true) := show _ = _ from by rw [← hp.out]; exact Pl.val_done _ k (by simp; omega)
      clear hp
      go_wp2
      go_ret
      exact ⟨by rw [H0.out]; rfl, rfl⟩
end Go.Proofs.YtillilllceeonaaDoor
namespace Go.Proofs.YtillilllceeonaaDoor
open Go.RowKit Go.Lib
set_option maxRecDepth 20000 in
/-- A field's variable: its two cells. -/
theorem var_cells {w : World} {g : Nat} {n v : ByteArray} {t : TypeId} {z : Nat × Nat} (h : w.heap[g]? = some (.cells #[.string n, .string v] t z)) :
    w.cell? ⟨g, 0, none⟩ = some (.string n) ∧ w.cell? ⟨g, 1, none⟩ = some (.string v) := by
  constructor <;> simp [World.cell?, h]
set_option maxRecDepth 20000 in
theorem Own.some_len {B : Nat} {v : Value} {p : List UInt8} {w : World} (h : Own B v p w) (hp : 0 < p.length) : ∃ g cap L, v = .slice (some ⟨g, 0, none⟩) L cap ∧ L = p.length := by
  rcases h.form with ⟨rfl, rfl⟩ | ⟨g, cap, rfl⟩
  · simp at hp
  · exact ⟨g, cap, _, rfl, rfl⟩
set_option maxHeartbeats 2000000 in
set_option maxRecDepth 40000 in
theorem specWriteHead (o : Option Addr) (F : List Fd) (cap : Nat) (w : World) (hF : Fld w.heap.size w o F) (hlen : F.length ≤ 200) (hsz : ∀ f ∈ F, f.1.size ≤ 1048576 ∧ f.2.size ≤ 1048576) :
    Calls Tryd.prog 33 #[.slice o F.length cap] w fun e w' => e = .returned (.string ⟨(Pl.hd [] F).toArray⟩) ∧ Below w.heap.size w w' := by
  obtain ⟨i0, hi, hy0, hy1, hy2⟩ := info_parts Tryd.info5
  have HF : Hid (Fld w.heap.size w o F) := hF
  have Hsz : Hid (∀ f ∈ F, f.1.size ≤ 1048576 ∧ f.2.size ≤ 1048576) := hsz
  clear hF hsz
  go_enter Tryd.func33, Tryd.ntmps33
  go_wp2
  go_loopw [3, 4, 5] (fun v i _ wr => ∃ (k : Nat) (p : List UInt8), k ≤ F.length ∧ i = .int .i64 k ∧ p.length ≤ 100000 ∧ Hid (Pl.hd p (F.drop k) = Pl.hd [] F) ∧ Own w.heap.size v p wr ∧ Below w.heap.size w wr) (fun _ i _ _ => F.length - (Lib.intOf i).toNat)
  case atStart => exact ⟨0, [], Nat.zero_le _, rfl, by simp, rfl, Own.made _ _ (Nat.le_refl _), (Below.refl _ _).alloc (Nat.le_refl _) _⟩
  case round =>
    obtain ⟨k, p, hk, rfl, hpl, hp, hown, hb⟩ := hrel
    by_cases hlt : k < F.length
    · obtain ⟨a, rfl, ha, hc0, hc1⟩ := (HF.out.below hb) k hlt
      obtain ⟨hs0, hs1⟩ := Hsz.out F[k] (List.getElem_mem _)
      have Hbad : Hid (Pl.okF F[k] = false → Pl.hd [] F = []) := show _ → _ from fun h => Pl.hd_bad p _ F k hlt h hp.out
      have Hlong : Hid (Pl.okF F[k] = true → 100000 < (p ++ Pl.line F[k]).length → Pl.hd [] F = []) := show _ → _ → _ from fun h hl => Pl.hd_long p _ F k hlt h hl hp.out
      have Hstep : Hid (Pl.okF F[k] = true → ¬ 100000 < (p ++ Pl.line F[k]).length → Pl.hd (p ++ Pl.line F[k]) (F.drop (k + 1)) = Pl.hd [] F) := show _ → _ → _ from fun h hl => Pl.hd_step p _ F k hlt h hl hp.out
      clear hp
      generalize F[k] = f at hc0 hc1 hs0 hs1 Hbad Hlong Hstep
      obtain ⟨n, v⟩ := f
      dsimp only at hc0 hc1 hs0 hs1
      have hcn := fun w => specName n w (by omega)
      have hcv := fun w => specValue v w (by omega)
      have hbs := hb.size
      by_cases hA : 100000 < v.size
      · have hE : Hid (Pl.hd [] F = []) := Hbad.out (Pl.okF_size _ (by dsimp only; omega))
        clear Hbad Hlong Hstep
        go_wp2
        go_ret
        exact ⟨by rw [hE.out]; rfl, hb.alloc hbs _⟩
      · cases hN : Pl.nameOk n.data.toList
        · have hE : Hid (Pl.hd [] F = []) := Hbad.out (Pl.okF_name _ hN)
          simp only [hN] at hcn
          clear Hbad Hlong Hstep hN
          go_wp2_with (go_at_call 44; go_must (refine (hcn _).mono ?_; rintro e w2 ⟨rfl, rfl⟩))
          go_ret
          exact ⟨by rw [hE.out]; rfl, hb.alloc hbs _⟩
        · cases hV : Pl.val v.data.toList
          · have hE : Hid (Pl.hd [] F = []) := Hbad.out (Pl.okF_val _ hV)
            simp only [hN] at hcn
            simp only [hV] at hcv
            clear Hbad Hlong Hstep hN hV
            go_wp2_with (first | (go_at_call 44; go_must (refine (hcn _).mono ?_; rintro e w2 ⟨rfl, rfl⟩)) | (go_at_call 45; go_must (refine (hcv _).mono ?_; rintro e w2 ⟨rfl, rfl⟩)))
            go_ret
            exact ⟨by rw [hE.out]; rfl, hb.alloc hbs _⟩
          · have hok : Pl.okF (n, v) = true := Pl.okF_mk _ (by dsimp only; omega) hN hV
            have hn7 := Pl.nameOk_size n hN
            simp only [hN] at hcn
            simp only [hV] at hcv
            clear hN hV Hbad
            have hownA := hown.alloc (.cells #[.string n, .string v] 94)
            have hbA := hb.alloc hbs (.cells #[.string n, .string v] 94)
            have hfvA : (wr.alloc (.cells #[.string n, .string v] 94)).heap[wr.heap.size]? = some (.cells #[.string n, .string v] 94 (0, 0)) := heap_alloc_at _ _
            have hll := Pl.line_len (n, v)
            dsimp only at hll
            by_cases hT : 100000 < p.length + n.size + v.size + 3
            · have hE : Hid (Pl.hd [] F = []) := Hlong.out hok (by rw [List.length_append, hll]; omega)
              clear Hlong Hstep hok
              go_wp2_with (first | (go_at_call 44; go_must (refine (hcn _).mono ?_; rintro e wx ⟨rfl, rfl⟩)) | (go_at_call 45; go_must (refine (hcv _).mono ?_; rintro e wx ⟨rfl, rfl⟩)) | (at_builtin; go_must (first | (refine wp_app_v (W := w) rfl _ _ 22 rfl i0 Tryd.underlying22 hi hy0 hy1 hy2 w.heap.size v3 (p ++ n.data.toList ++ [58] ++ v.data.toList) rfl hown3 _ [13, 10] rfl 2 2 rfl rfl (by simp; omega) (Nat.le_refl _) hb3 wr.heap.size _ 94 (0, 0) (by decide) hf3 ?_; intro v4 w4 hown4 hb4 hf4; obtain ⟨g4, cap4, L, rfl, hL⟩ := hown4.some_len (by simp; omega); have hLd : decide ((100000 : Int) < (L : Int)) = true := (by have e := hL; simp only [List.length_append, List.length_cons, List.length_nil, Pl.len_list] at e; first | exact decide_eq_true (by omega) | exact decide_eq_false (by omega)); clear hL) | (refine wp_apps_v (W := w) rfl _ _ 22 9 rfl i0 Tryd.underlying22 Tryd.underlying9 hi hy0 hy1 hy2 w.heap.size v2 (p ++ n.data.toList ++ [58]) rfl hown2 v rfl (by simp; omega) (Nat.le_refl _) hb2 wr.heap.size _ 94 (0, 0) (by decide) hf2 ?_; intro v3 w3 hown3 hb3 hf3) | (refine wp_app_v (W := w) rfl _ _ 22 rfl i0 Tryd.underlying22 hi hy0 hy1 hy2 w.heap.size v1 (p ++ n.data.toList) rfl hown1 _ [58] rfl 1 1 rfl rfl (by simp; omega) (Nat.le_refl _) hb1 wr.heap.size _ 94 (0, 0) (by decide) hf1 ?_; intro v2 w2 hown2 hb2 hf2; obtain ⟨he0, he1⟩ := var_cells hf2) | (refine wp_apps_v (W := w) rfl _ _ 22 9 rfl i0 Tryd.underlying22 Tryd.underlying9 hi hy0 hy1 hy2 w.heap.size u3 p rfl hownA n rfl (by omega) (Nat.le_refl _) hbA wr.heap.size _ 94 (0, 0) (by decide) hfvA ?_; intro v1 w1 hown1 hb1 hf1; obtain ⟨hd0, hd1⟩ := var_cells hf1))))
              go_ret
              exact ⟨by rw [hE.out]; rfl, hb4⟩
            · have hE : Hid (Pl.hd (p ++ n.data.toList ++ [58] ++ v.data.toList ++ [13, 10]) (F.drop (k + 1)) = Pl.hd [] F) := show _ = _ from by
                have := Hstep.out hok (by rw [List.length_append, hll]; omega)
                rw [← this]
                simp [Pl.line]
              clear Hlong Hstep hok
              go_wp2_with (first | (go_at_call 44; go_must (refine (hcn _).mono ?_; rintro e wx ⟨rfl, rfl⟩)) | (go_at_call 45; go_must (refine (hcv _).mono ?_; rintro e wx ⟨rfl, rfl⟩)) | (at_builtin; go_must (first | (refine wp_app_v (W := w) rfl _ _ 22 rfl i0 Tryd.underlying22 hi hy0 hy1 hy2 w.heap.size v3 (p ++ n.data.toList ++ [58] ++ v.data.toList) rfl hown3 _ [13, 10] rfl 2 2 rfl rfl (by simp; omega) (Nat.le_refl _) hb3 wr.heap.size _ 94 (0, 0) (by decide) hf3 ?_; intro v4 w4 hown4 hb4 hf4; obtain ⟨g4, cap4, L, rfl, hL⟩ := hown4.some_len (by simp; omega); have hLd : decide ((100000 : Int) < (L : Int)) = false := (by have e := hL; simp only [List.length_append, List.length_cons, List.length_nil, Pl.len_list] at e; first | exact decide_eq_true (by omega) | exact decide_eq_false (by omega)); clear hL) | (refine wp_apps_v (W := w) rfl _ _ 22 9 rfl i0 Tryd.underlying22 Tryd.underlying9 hi hy0 hy1 hy2 w.heap.size v2 (p ++ n.data.toList ++ [58]) rfl hown2 v rfl (by simp; omega) (Nat.le_refl _) hb2 wr.heap.size _ 94 (0, 0) (by decide) hf2 ?_; intro v3 w3 hown3 hb3 hf3) | (refine wp_app_v (W := w) rfl _ _ 22 rfl i0 Tryd.underlying22 hi hy0 hy1 hy2 w.heap.size v1 (p ++ n.data.toList) rfl hown1 _ [58] rfl 1 1 rfl rfl (by simp; omega) (Nat.le_refl _) hb1 wr.heap.size _ 94 (0, 0) (by decide) hf1 ?_; intro v2 w2 hown2 hb2 hf2; obtain ⟨he0, he1⟩ := var_cells hf2) | (refine wp_apps_v (W := w) rfl _ _ 22 9 rfl i0 Tryd.underlying22 Tryd.underlying9 hi hy0 hy1 hy2 w.heap.size u3 p rfl hownA n rfl (by omega) (Nat.le_refl _) hbA wr.heap.size _ 94 (0, 0) (by decide) hfvA ?_; intro v1 w1 hown1 hb1 hf1; obtain ⟨hd0, hd1⟩ := var_cells hf1))))
              go_roundw
              case rel => exact ⟨k + 1, _, by omega, by go_num, by simp; omega, hE, hown4, hb4⟩
              case measure => simp [Lib.intOf]; omega
    · have hpn : Hid (Pl.hd [] F = p) := show _ = _ from Pl.hd_done p _ F k (by omega) hp.out
      clear hp
      have hbk := hown.back (P := Tryd.prog) 22 9 Tryd.underlying22 Tryd.underlying5 Tryd.underlying9
      go_wp2
      go_ret
      rw [hpn.out]
      exact ⟨rfl, hb⟩
end Go.Proofs.YtillilllceeonaaDoor
