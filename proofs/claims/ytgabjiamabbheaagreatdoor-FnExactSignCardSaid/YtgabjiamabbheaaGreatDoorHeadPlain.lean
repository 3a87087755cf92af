
/- Plain mathematics of WriteHead; a slice of bytes beside a variable. -/
import Derived.Test.YtgabjiamabbheaaGreatDoorFoldPlain
import Derived.Test.YtgabjiamabbheaaGreatDoorBytes
namespace Go.Proofs.YtgabjiamabbheaaGreatDoor
namespace Pl
/-- A byte of a field's name. -/
def nb (c : UInt8) : Bool := decide (33 ≤ c.toNat) && (decide (c.toNat ≤ 126) && !(c == 58))
def nameOk (l : List UInt8) : Bool := !l.isEmpty && (decide (l.length ≤ 70) && l.all nb)
def okF (f : ByteArray × ByteArray) : Bool := decide (f.2.size ≤ 100000) && (nameOk f.1.data.toList && val f.2.data.toList)
def line (f : ByteArray × ByteArray) : List UInt8 := f.1.data.toList ++ [58] ++ f.2.data.toList ++ [13, 10]
/-- What is written behind what is there. -/
def hd : List UInt8 → List (ByteArray × ByteArray) → List UInt8
  | out, [] => out
  | out, f :: r => if okF f then (if 100000 < (out ++ line f).length then [] else hd (out ++ line f) r) else []
set_option maxRecDepth 20000 in
theorem hd_bad (p x : List UInt8) (F : List (ByteArray × ByteArray)) (k : Nat) (hk : k < F.length) (h : okF F[k] = false) (hp : hd p (F.drop k) = x) : x = [] := by
  rw [List.drop_eq_getElem_cons hk, hd, if_neg (by rw [h]; simp)] at hp
  exact hp.symm
set_option maxRecDepth 20000 in
theorem hd_long (p x : List UInt8) (F : List (ByteArray × ByteArray)) (k : Nat) (hk : k < F.length) (h : okF F[k] = true) (hl : 100000 < (p ++ line F[k]).length) (hp : hd p (F.drop k) = x) : x = [] := by
  rw [List.drop_eq_getElem_cons hk, hd, if_pos h, if_pos hl] at hp
  exact hp.symm
set_option maxRecDepth 20000 in
theorem hd_step (p x : List UInt8) (F : List (ByteArray × ByteArray)) (k : Nat) (hk : k < F.length) (h : okF F[k] = true) (hl : ¬ 100000 < (p ++ line F[k]).length) (hp : hd p (F.drop k) = x) : hd (p ++ line F[k]) (F.drop (k + 1)) = x := by
  rw [List.drop_eq_getElem_cons hk, hd, if_pos h, if_neg hl] at hp
  exact hp
set_option maxRecDepth 20000 in
theorem hd_done (p x : List UInt8) (F : List (ByteArray × ByteArray)) (k : Nat) (hk : F.length ≤ k) (hp : hd p (F.drop k) = x) : x = p := by
  rw [List.drop_eq_nil_of_le hk, hd] at hp
  exact hp.symm
set_option maxRecDepth 20000 in
theorem okF_size (f : ByteArray × ByteArray) (h : ¬ f.2.size ≤ 100000) : okF f = false := by simp [okF, h]
set_option maxRecDepth 20000 in
theorem okF_name (f : ByteArray × ByteArray) (h : nameOk f.1.data.toList = false) : okF f = false := by simp [okF, h]
set_option maxRecDepth 20000 in
theorem okF_val (f : ByteArray × ByteArray) (h : val f.2.data.toList = false) : okF f = false := by simp [okF, h]
set_option maxRecDepth 20000 in
theorem okF_mk (f : ByteArray × ByteArray) (h : f.2.size ≤ 100000) (h1 : nameOk f.1.data.toList = true) (h2 : val f.2.data.toList = true) : okF f = true := by simp [okF, h, h1, h2]
set_option maxRecDepth 20000 in
theorem nameOk_size (f : ByteArray) (h : nameOk f.data.toList = true) : f.size ≤ 70 := by
  simp [nameOk] at h
  exact h.2.1
set_option maxRecDepth 20000 in
theorem line_len (f : ByteArray × ByteArray) : (line f).length = f.1.size + f.2.size + 3 := by simp [line]; omega
end Pl
open Go.RowKit Go.Lib
set_option maxRecDepth 20000 in
/-- A block of another type lies beside the bytes. -/
theorem Own.beside {B : Nat} {v : Value} {p : List UInt8} {w : World} (h : Own B v p w) {fv : Nat} {cs : Array Value} {t : TypeId} {z : Nat × Nat} (ht : t ≠ 5) (hf : w.heap[fv]? = some (.cells cs t z)) : v.ownBlock ≠ some fv := by
  intro e
  rcases h.2 with ⟨rfl, -⟩ | ⟨g, cap, cur, rfl, -, hg, -⟩
  · cases e
  · cases e
    rw [hf] at hg
    simp only [Option.some.injEq, Obj.cells.injEq] at hg
    exact ht hg.2.1
set_option maxRecDepth 20000 in
theorem grown_beside {w w' : World} {row : Option Nat} (hg : w.grownBy w' row) {fv : Nat} {ob : Obj} (hf : w.heap[fv]? = some ob) (hne : row ≠ some fv) : w'.heap[fv]? = some ob := by
  have hlt : fv < w.heap.size := by
    by_cases h : fv < w.heap.size
    · exact h
    · rw [Array.getElem?_eq_none (by omega)] at hf; cases hf
  rw [← hf]
  exact hg.block fv hlt (fun e => hne e.symm)
set_option maxRecDepth 20000 in
/-- An append of some bytes, beside a variable. -/
theorem wp_app_v {P : Program} {W w : World} {ops : Array Oper} {rest : List Oper} {o : Oper} {a : Act} {Q : Exit → Act → World → Prop} (hgd : o.guard = none) (s x : Operand) (t : TypeId)
    (ho : o.op = .call { callee := .builtin .append, args := #[s, x], argTypes := #[t, t] })
    (i : TypeInfo) (ht : P.underlying t = some (.slice 5)) (hi : P.info? 5 = some i) (hz : i.zero = some (.int .u8 0)) (hsize : i.size = 1) (hby : i.bytes = 1)
    (B : Nat) (v : Value) (p : List UInt8) (hs : a.eval s = v) (hown : Own B v p w) (cs : Array Value) (news : List UInt8) (hcs : cs.toList = byteCells news)
    (n c : Nat) (hn : n = news.length) (hx : a.eval x = .slice (some ⟨w.heap.size, 0, none⟩) n c) (hlen : p.length + news.length ≤ 140737488355328) (hB : B ≤ W.heap.size) (hb : Below B W w)
    (fv : Nat) (ob : Array Value) (tv : TypeId) (z : Nat × Nat) (htv : tv ≠ 5) (hfv : w.heap[fv]? = some (.cells ob tv z))
    (h : ∀ v' w', Own B v' (p ++ news) w' → Below B W w' → w'.heap[fv]? = some (.cells ob tv z) → wpList P ops Q rest (a.put o.dst v') w') : wpList P ops Q (o :: rest) a (w.alloc (.cells cs 5)) := by
  subst hn
  have hsz := hb.size
  have hlt : fv < w.heap.size := by
    by_cases h : fv < w.heap.size
    · exact h
    · rw [Array.getElem?_eq_none (by omega)] at hfv; cases hfv
  refine wpList_append_own _ hgd s x t ho B 5 i (.int .u8 0) 1 1 ht hi hz hsize hby rfl (by decide) v p.length (byteCells p) hs (hown.alloc _) ⟨w.heap.size, 0, none⟩ news.length c (byteCells news) hx
    (by rw [byteCells_length, Nat.mul_one]) ?_ ?_ (by unfold maxLen; omega) (by omega) (by simp; omega) ?_
  · intro j u hj
    have e2 : cs[j]? = some u := by rw [← Array.getElem?_toList, hcs]; exact hj
    rw [add_off]
    simp [e2]
  · intro u hu
    simp only [byteCells, List.mem_map] at hu
    obtain ⟨b, -, rfl⟩ := hu
    rfl
  · intro v' w' h1 h2 _
    refine h v' w' ?_ ?_ ?_
    · unfold Own
      rw [byteCells_append, List.length_append]
      exact h1
    · exact (hb.alloc (by omega) _).grown h2 (by simp; omega) (fun k hk => (World.ownsRow.lt hown k hk).1)
    · exact grown_beside h2 ((Below.heap_alloc w _ fv hlt).trans hfv) (hown.beside htv hfv)
set_option maxRecDepth 20000 in
/-- An append of a text, beside a variable. -/
theorem wp_apps_v {P : Program} {W w : World} {ops : Array Oper} {rest : List Oper} {o : Oper} {a : Act} {Q : Exit → Act → World → Prop} (hgd : o.guard = none) (s x : Operand) (t u : TypeId)
    (ho : o.op = .call { callee := .builtin .append, args := #[s, x], argTypes := #[t, u] })
    (i : TypeInfo) (ht : P.underlying t = some (.slice 5)) (hu : P.underlying u = some .string) (hi : P.info? 5 = some i) (hz : i.zero = some (.int .u8 0)) (hsize : i.size = 1) (hby : i.bytes = 1)
    (B : Nat) (v : Value) (p : List UInt8) (hs : a.eval s = v) (hown : Own B v p w) (news : ByteArray)
    (hx : a.eval x = .string news) (hlen : p.length + news.size ≤ 140737488355328) (hB : B ≤ W.heap.size) (hb : Below B W w)
    (fv : Nat) (ob : Array Value) (tv : TypeId) (z : Nat × Nat) (htv : tv ≠ 5) (hfv : w.heap[fv]? = some (.cells ob tv z))
    (h : ∀ v' w', Own B v' (p ++ news.data.toList) w' → Below B W w' → w'.heap[fv]? = some (.cells ob tv z) → wpList P ops Q rest (a.put o.dst v') w') : wpList P ops Q (o :: rest) a w := by
  have hsz := hb.size
  refine wpList_append_own_string _ hgd s x t u ho B 5 i ht hu hi hz hsize hby v p.length (byteCells p) hs hown news hx (by unfold maxLen; omega) hlen (by omega) ?_
  intro v' w' h1 h2 _
  refine h v' w' ?_ ?_ ?_
  · unfold Own
    rw [byteCells_append, List.length_append]
    exact h1
  · exact hb.grown h2 (by omega) (fun k hk => (World.ownsRow.lt hown k hk).1)
  · exact grown_beside h2 hfv (hown.beside htv hfv)
end Go.Proofs.YtgabjiamabbheaaGreatDoor
