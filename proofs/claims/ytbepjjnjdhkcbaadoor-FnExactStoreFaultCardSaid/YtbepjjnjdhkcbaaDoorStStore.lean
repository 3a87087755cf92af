
/- The program's StoreFault. -/
import Derived.Test.YtbepjjnjdhkcbaaDoorStBox
import Derived.Test.YtbepjjnjdhkcbaaDoorSpecStoreFault
namespace Go.Proofs.YtbepjjnjdhkcbaaDoor
open Go.RowKit Go.Lib Go.Maps
namespace St
def pBox (nv : Int) (P : List GMailbox) (b : GMailbox) : Bool := within b.validity 1 (nv - 1) && (!P.any (fun x => x.validity == b.validity) && (boxName b.name && okBox b))
def pBoxes (nv : Int) : List GMailbox → List GMailbox → Bool
  | _, [] => true
  | P, b :: r => pBox nv P b && pBoxes nv (P ++ [b]) r
set_option maxRecDepth 20000 in
theorem pBoxes_step (nv : Int) (F : List GMailbox) (k : Nat) (h : k < F.length) : pBoxes nv (F.take k) (F.drop k) = (pBox nv (F.take k) F[k] && pBoxes nv (F.take (k + 1)) (F.drop (k + 1))) := by
  rw [List.drop_eq_getElem_cons h, pBoxes, List.take_succ_eq_append_getElem h]
set_option maxRecDepth 20000 in
theorem okOne_eq (nv : Int) (p : Option ByteArray) (P : List GMailbox) (b : GMailbox) : okOne nv p P b = (pBox nv P b && lessO p b.name) := by
  unfold okOne pBox within
  have e2 : decide (b.validity ≤ nv - 1) = decide (b.validity < nv) := by rw [Bool.eq_iff_iff]; simp; omega
  rw [e2]
  generalize boxName b.name = a1
  generalize lessO p b.name = a2
  generalize decide (1 ≤ b.validity) = a3
  generalize decide (b.validity < nv) = a4
  generalize okBox b = a5
  generalize P.any (fun x => x.validity == b.validity) = a6
  cases a1 <;> cases a2 <;> cases a3 <;> cases a4 <;> cases a5 <;> cases a6 <;> rfl
set_option maxRecDepth 20000 in
theorem okBoxes_some (nv : Int) : ∀ (F P : List GMailbox) (q : ByteArray), okBoxes nv (some q) P F = (pBoxes nv P F && riseP q (F.map (·.name)))
  | [], _, _ => rfl
  | b :: r, P, q => by
    rw [okBoxes, okOne_eq, okBoxes_some nv r (P ++ [b]) b.name, pBoxes, List.map_cons, riseP]
    show (pBox nv P b && lessB q b.name && _) = _
    generalize pBox nv P b = a1
    generalize lessB q b.name = a2
    generalize pBoxes nv (P ++ [b]) r = a3
    generalize riseP b.name (r.map (·.name)) = a4
    cases a1 <;> cases a2 <;> cases a3 <;> cases a4 <;> rfl
set_option maxRecDepth 20000 in
theorem okBoxes_none (nv : Int) (F P : List GMailbox) : okBoxes nv none P F = (pBoxes nv P F && rise (F.map (·.name))) := by
  cases F with
  | nil => rfl
  | cons b r =>
    rw [okBoxes, okOne_eq, okBoxes_some nv r (P ++ [b]) b.name, pBoxes, List.map_cons, rise]
    show (pBox nv P b && true && _) = _
    generalize pBox nv P b = a1
    generalize pBoxes nv (P ++ [b]) r = a3
    generalize riseP b.name (r.map (·.name)) = a4
    cases a1 <;> cases a3 <;> cases a4 <;> rfl
set_option maxRecDepth 20000 in
theorem find_any (t : ByteArray) : ∀ (F : List GMailbox) (k : Nat), decide (0 ≤ findFrom t k F) = (F.map (·.name)).any (fun x => x.toList == t.toList)
  | [], _ => rfl
  | b :: r, k => by
    rw [findFrom, List.map_cons, List.any_cons]
    cases h : (b.name.toList == t.toList)
    · rw [if_neg (by simp), find_any t r (k + 1), Bool.false_or]
    · rw [if_pos rfl]
      simp
def storeP (n : GStore) : Bool := within n.nextValidity 1 4294967295 && (decide (n.boxes.length ≤ 32) && (pBoxes n.nextValidity [] n.boxes && (rise (n.boxes.map (·.name)) && ((n.boxes.map (·.name)).any (fun x => x.toList == inbox.toList) && decide (boxBytes n.boxes ≤ 400000)))))
set_option maxRecDepth 20000 in
theorem okStore_eq (n : GStore) : okStore n = storeP n := by
  unfold okStore storeP within
  rw [okBoxes_none, find_any]
  cases hF : n.boxes with
  | nil => simp
  | cons b r =>
    rw [show decide (1 ≤ (b :: r).length) = true from decide_eq_true (by simp)]
    generalize decide (1 ≤ n.nextValidity) = a1
    generalize decide (n.nextValidity ≤ 4294967295) = a2
    generalize decide ((b :: r).length ≤ 32) = a3
    generalize ((b :: r).map (·.name)).any (fun x => x.toList == inbox.toList) = a4
    generalize pBoxes n.nextValidity [] (b :: r) = a5
    generalize rise ((b :: r).map (·.name)) = a6
    generalize decide (boxBytes (b :: r) ≤ 400000) = a7
    cases a1 <;> cases a2 <;> cases a3 <;> cases a4 <;> cases a5 <;> cases a6 <;> cases a7 <;> rfl
set_option maxRecDepth 20000 in
theorem okMails_short (nu tm : Int) : ∀ (M : List GMail), M.all (mailOk nu tm) = true → ∀ m ∈ M, shortM m := by
  intro M h m hm
  rw [List.all_eq_true] at h
  have := h m hm
  unfold mailOk at this
  simp only [Bool.and_eq_true, decide_eq_true_eq] at this
  obtain ⟨-, -, h3, h4, -⟩ := this
  refine ⟨h3, fun t ht => ?_⟩
  unfold flags at h4
  simp only [Bool.and_eq_true, List.all_eq_true] at h4
  have h5 := h4.2 t ht
  unfold flag at h5
  rw [Bool.or_eq_true] at h5
  have hl : t.data.toList.length = t.size := by simp
  rcases h5 with h5 | h5
  · unfold sys at h5
    simp only [Bool.or_eq_true, beq_iff_eq] at h5
    rcases h5 with h5 | h5 | h5 | h5 | h5 <;> (rw [h5] at hl; simp at hl; omega)
  · simp only [Bool.and_eq_true, decide_eq_true_eq] at h5
    omega
set_option maxRecDepth 20000 in
theorem pBoxes_short (nv : Int) : ∀ (F P : List GMailbox), pBoxes nv P F = true → ∀ b ∈ F, shortB b
  | [], _, _, b, hb => by cases hb
  | c :: r, P, h, b, hb => by
    rw [pBoxes, Bool.and_eq_true] at h
    rcases List.mem_cons.1 hb with rfl | hb
    · have h1 := h.1
      unfold pBox at h1
      rw [okBox_eq] at h1
      simp only [Bool.and_eq_true] at h1
      obtain ⟨-, -, h2, h3⟩ := h1
      refine ⟨?_, ?_⟩
      · unfold boxName at h2
        simp only [Bool.and_eq_true, decide_eq_true_eq] at h2
        omega
      · unfold boxP mailsOk at h3
        simp only [Bool.and_eq_true] at h3
        exact okMails_short _ _ _ h3.2.2.1.2.2
    · exact pBoxes_short nv r _ h.2 b hb
end St
def strCellsX (P : List ByteArray) : List Value := P.map .string
/-- The slice v, whose array is among the blocks from B on, holds just the texts P. -/
def OwnX (B : Nat) (v : Value) (P : List ByteArray) (w : World) : Prop := w.ownsRow B 9 1 v P.length (strCellsX P)
set_option maxRecDepth 20000 in
theorem OwnX.nil (B : Nat) (w : World) : OwnX B (.slice none 0 0) [] w := World.ownsRow_nil w B 9 1
set_option maxRecDepth 20000 in
theorem OwnX.shape {B : Nat} {v : Value} {P : List ByteArray} {w : World} (h : OwnX B v P w) : ∃ o cap, v = .slice o P.length cap := by
  rcases h.2 with ⟨rfl, h0⟩ | ⟨g, cap, cur, rfl, -⟩
  · exact ⟨none, 0, by rw [h0]⟩
  · exact ⟨_, cap, rfl⟩
set_option maxRecDepth 20000 in
theorem OwnX.txL {B : Nat} {o : Option Addr} {cap : Nat} {P : List ByteArray} {w : World} (h : OwnX B (.slice o P.length cap) P w) : TxL B w.heap.size w o P := by
  intro i hi
  have hl := World.ownsRow.lt h
  rcases h.2 with ⟨h1, h0⟩ | ⟨g, cap', cur, h1, hB, -⟩
  · omega
  · simp only [Value.slice.injEq] at h1
    obtain ⟨rfl, -⟩ := h1
    exact ⟨_, rfl, hB, (hl g rfl).2, World.ownsRow.cells h (g := g) rfl i _ (by simp [strCellsX, hi])⟩
set_option maxRecDepth 20000 in
theorem OwnX.keep {B : Nat} {v : Value} {P : List ByteArray} {w w' : World} {row : Option Nat} (h : OwnX B v P w) (hg : w.grownBy w' row) (hne : v.ownBlock = none ∨ v.ownBlock ≠ row) : OwnX B v P w' := World.ownsRow.kept h hg hne
set_option maxRecDepth 20000 in
theorem OwnX.below {B : Nat} {v : Value} {P : List ByteArray} {w w' : World} (h : OwnX B v P w) (hb : Below w.heap.size w w') : OwnX B v P w' := World.ownsRow.kept h (row := none) ⟨hb.os, hb.tape, hb.output, hb.size, fun k hk _ => hb.block k hk⟩ (by
  cases hv : v.ownBlock with
  | none => exact .inl rfl
  | some k => exact .inr (by simp))
set_option maxRecDepth 20000 in
theorem Tryd.info9X : (Tryd.prog.info? 9).map (fun i => (i.zero, i.size, i.bytes)) = some (some (.string ⟨#[]⟩), 1, 16) := by kernel_rfl
set_option maxRecDepth 20000 in
theorem wp_appX {w : World} {ops : Array Oper} {rest : List Oper} {o : Oper} {a : Act} {Q : Exit → Act → World → Prop} (hgd : o.guard = none) (s x : Operand)
    (ho : o.op = .call { callee := .builtin .append, args := #[s, x], argTypes := #[51, 51] })
    (B : Nat) (v : Value) (C : List ByteArray) (hs : a.eval s = v) (hown : OwnX B v C w) (u : ByteArray)
    (c : Nat) (hx : a.eval x = .slice (some ⟨w.heap.size, 0, none⟩) 1 c) (hlen : C.length ≤ 1000000) (hB : B ≤ w.heap.size)
    (h : ∀ v' w', OwnX B v' (C ++ [u]) w' → (w.alloc (.cells #[.string u] 9)).grownBy w' v.ownBlock → wpList Tryd.prog ops Q rest (a.put o.dst v') w') : wpList Tryd.prog ops Q (o :: rest) a (w.alloc (.cells #[.string u] 9)) := by
  obtain ⟨i0, hi0, hz0, hz1, hz2⟩ := info_parts Tryd.info9X
  unfold OwnX at hown
  refine wpList_append_own _ hgd s x 51 ho B 9 i0 (.string ⟨#[]⟩) 1 16 Tryd.underlying51 hi0 hz0 hz1 hz2 rfl (by decide) v C.length (strCellsX C) hs (World.ownsRow.alloc hown _) ⟨w.heap.size, 0, none⟩ 1 c [.string u] hx
    rfl ?_ ?_ (by unfold maxLen; omega) (by omega) (by simp; omega) ?_
  · intro j y hj
    rw [add_off]
    match j, hj with
    | 0, hj => simp at hj; subst hj; simp
  · intro y hy
    simp at hy
    subst hy
    rfl
  · intro v' w' h1 h2 _
    refine h v' w' ?_ h2
    unfold OwnX strCellsX
    rw [List.map_append, List.length_append]
    exact h1
end Go.Proofs.YtbepjjnjdhkcbaaDoor
