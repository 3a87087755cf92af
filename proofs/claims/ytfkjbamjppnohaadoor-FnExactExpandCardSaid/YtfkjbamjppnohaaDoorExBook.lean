
/- The program's book of aliases: a map. -/
import Derived.Test.YtfkjbamjppnohaaDoorExSet
namespace Go.Proofs.YtfkjbamjppnohaaDoor
open Go.RowKit Go.Lib Go.Maps
def heldElem (v : Value) : Option (DataW Value × List MemPlace) := some (.held v, [])
theorem heldElem_inv {v u : Value} {ps : List MemPlace} (h : heldElem v = some (.held u, ps)) : v = u := by
  unfold heldElem at h
  simp at h
  exact h.1
abbrev zeroA : Value := .agg #[.string ⟨#[]⟩, .slice none 0 0]
def keyL (k : ByteArray) : Lit := .string k.data.toList
/-- A map that has, of the aliases A, the first of each name. -/
structure Book (lo hi : Nat) (w : World) (m n : Nat) (A : List GAlias) : Prop where
  own : ∃ D : DataW Value, w.ownsMap Tryd.prog 9 heldElem m n D ∧ (∀ k : ByteArray, Ex.find A k = none → has D (keyL k) = false) ∧
    ∀ (k : ByteArray) (al : GAlias), Ex.find A k = some al → has D (keyL k) = true ∧ ∃ v, D.atKey (keyL k) (.held zeroA) = .held (GAliasV al v) ∧ GAliasIn lo hi w al v
theorem Book.kept {lo hi : Nat} {w w' : World} {m n : Nat} {A : List GAlias} {row : Option Nat} (h : Book lo hi w m n A) (hg : w.grownBy w' row) (hne : some m ≠ row) (hs : Same lo hi w w') : Book lo hi w' m n A := by
  obtain ⟨D, hD, h1, h2⟩ := h.own
  exact ⟨D, hD.kept hg hne, h1, fun k al hk => by
    obtain ⟨a, v, b, c⟩ := h2 k al hk
    exact ⟨a, v, b, c.same hs⟩⟩
theorem Book.lt {lo hi : Nat} {w : World} {m n : Nat} {A : List GAlias} (h : Book lo hi w m n A) : m < w.heap.size := by
  obtain ⟨D, hD, _⟩ := h.own
  exact hD.lt
theorem Book.nocell {lo hi : Nat} {w : World} {m n : Nat} {A : List GAlias} (h : Book lo hi w m n A) {p : Addr} {v : Value} (hp : w.cell? p = some v) : p.block ≠ m := by
  obtain ⟨D, ⟨es, clock, hb, _⟩, _⟩ := h.own
  intro e
  simp [World.cell?, e, hb] at hp
theorem Ex.find_take (F : List GAlias) (i : Nat) (h : i < F.length) (k : ByteArray) : Ex.find (F.take (i + 1)) k = (Ex.find (F.take i) k).or (if Ex.same F[i].name k then some F[i] else none) := by
  rw [List.take_succ_eq_append_getElem h]
  unfold Ex.find
  rw [List.find?_append]
  congr 1
  rw [List.find?_cons]
  cases Ex.same F[i].name k <;> rfl
theorem keyL_ne {x z : ByteArray} (h : Ex.same x z = false) : keyL z ≠ keyL x := key_ne h
/-- One alias more, of a name that was not there. -/
theorem Book.put {lo hi : Nat} {w w' : World} {m n : Nat} (F : List GAlias) (i : Nat) (h : i < F.length) {v : Value} {D : DataW Value} (hD : w.ownsMap Tryd.prog 9 heldElem m n D)
    (h1 : ∀ k : ByteArray, Ex.find (F.take i) k = none → has D (keyL k) = false)
    (h2 : ∀ (k : ByteArray) (al : GAlias), Ex.find (F.take i) k = some al → has D (keyL k) = true ∧ ∃ v, D.atKey (keyL k) (.held zeroA) = .held (GAliasV al v) ∧ GAliasIn lo hi w al v)
    (hno : Ex.find (F.take i) F[i].name = none) (hv : GAliasIn lo hi w F[i] v) (hD' : w'.ownsMap Tryd.prog 9 heldElem m (n + 1) (D.put (keyL F[i].name) (.held (GAliasV F[i] v)))) (hs : Same lo hi w w') : Book lo hi w' m (n + 1) (F.take (i + 1)) := by
  refine ⟨_, hD', ?_, ?_⟩
  · intro k hk
    rw [Ex.find_take F i h] at hk
    cases e : Ex.same F[i].name k
    · rw [e] at hk
      rw [has_put_other (keyL_ne e)]
      exact h1 k (by cases hf : Ex.find (F.take i) k with
        | none => rfl
        | some a => rw [hf] at hk; simp at hk)
    · rw [e] at hk
      cases hf : Ex.find (F.take i) k <;> rw [hf] at hk <;> simp at hk
  · intro k al hk
    rw [Ex.find_take F i h] at hk
    cases e : Ex.same F[i].name k
    · rw [e] at hk
      have hk' : Ex.find (F.take i) k = some al := by
        cases hf : Ex.find (F.take i) k with
        | none => rw [hf] at hk; simp at hk
        | some a => rw [hf] at hk; simpa using hk
      obtain ⟨a, v', b, c⟩ := h2 k al hk'
      rw [has_put_other (keyL_ne e), atKey_put_other (keyL_ne e)]
      exact ⟨a, v', b, c.same hs⟩
    · obtain rfl := (Ex.same_iff _ _).1 e
      rw [hno, e] at hk
      obtain rfl : F[i] = al := by simpa using hk
      rw [has_put_same (k := keyL F[i].name) hD.isMap trivial, atKey_put_same (k := keyL F[i].name) hD.isMap trivial]
      exact ⟨rfl, v, rfl, hv.same hs⟩
theorem Book.skip {lo hi : Nat} {w : World} {m n : Nat} (F : List GAlias) (i : Nat) (h : i < F.length) {al : GAlias} (hb : Book lo hi w m n (F.take i)) (hyes : Ex.find (F.take i) F[i].name = some al) : Book lo hi w m n (F.take (i + 1)) := by
  have e : ∀ k, Ex.find (F.take (i + 1)) k = Ex.find (F.take i) k := by
    intro k
    rw [Ex.find_take F i h]
    cases e : Ex.same F[i].name k
    · simp
    · obtain rfl := (Ex.same_iff _ _).1 e
      rw [hyes]
      rfl
  obtain ⟨D, hD, h1, h2⟩ := hb.own
  exact ⟨D, hD, fun k hk => h1 k (by rw [← e]; exact hk), fun k al hk => h2 k al (by rw [← e]; exact hk)⟩
theorem wpList_lookup_held {P : Program} (w : World) {ops : Array Oper} {rest : List Oper} {o : Oper} {a : Act} {Q : Exit → Act → World → Prop} (hg : o.guard = none) (m x : Operand) (t : TypeId) (hop : o.op = Op.lookup t m x true)
    (k e : TypeId) (K : Keyed P k) (ht : P.underlying t = some (.map k e)) {z : Value} (hz : (zeroValue e).run P w = .ok z w) (b n : Nat) (D : DataW Value)
    (hm : a.eval m = .map (some b)) (hown : w.ownsMap P k heldElem b n D) (key : Value) (kl : Lit) (hx : a.eval x = key) (hkey : keyOf P k key = some kl) (u : Value) (hat : D.atKey kl (.held z) = .held u) (c : Bool) (hc : has D kl = c)
    (hK : wpList P ops Q rest (a.put o.dst (.tuple #[u, .bool c])) w) : wpList P ops Q (o :: rest) a w :=
  wpList_lookup_own_ok w hg m x t hop k e K ht heldElem hz (.held z) [] rfl b n D hm hown key kl hx hkey (fun v ps hv => by
    rw [hat] at hv
    obtain rfl := heldElem_inv hv
    rw [hc]
    exact hK)
theorem zero_alias (w : World) : (zeroValue 41).run Tryd.prog w = .ok zeroA w := by kernel_rfl
theorem grown_alloc (w : World) (o : Obj) (row : Option Nat) : w.grownBy (w.alloc o) row := by
  have hb : Below w.heap.size w (w.alloc o) := (Below.refl _ _).alloc (Nat.le_refl _) _
  exact ⟨hb.os, hb.tape, hb.output, hb.size, fun k hk _ => hb.block k hk⟩
theorem same_alloc (w : World) (o : Obj) (lo hi : Nat) (h : hi ≤ w.heap.size) : Same lo hi w (w.alloc o) := Same.of_below ((Below.refl w.heap.size w).alloc (Nat.le_refl _) o) h
abbrev bxL (n : ByteArray) (v : Value) : Obj := .cells #[.string n, v] 41
set_option maxRecDepth 20000 in
set_option maxHeartbeats 4000000 in
theorem implBookOf (o : Option Addr) (F : List GAlias) (cap lo : Nat) (w : World) (hF : GAliassL lo w.heap.size w o F) (hl : F.length ≤ 100) (hsz : ∀ t ∈ F, t.name.size ≤ 1048576) :
    Calls Tryd.prog 20 #[.slice o F.length cap] w fun e w' => ∃ n, n ≤ 100 ∧ e = .returned (.map (some w.heap.size)) ∧ Hid (Book lo w.heap.size w' w.heap.size n F) ∧ Below w.heap.size w w' := by
  have hmm : (Instr.makeMap 46 (some (.int .i64 (F.length : Int)))).run Tryd.prog w = .ok (.map (some w.heap.size)) (w.alloc (.map #[] 0)) := by first | kernel_rfl | rfl
  have HF := mkHid hF
  have Hsz := mkHid hsz
  obtain ⟨G, hG⟩ : ∃ G, G = w.heap.size := ⟨_, rfl⟩
  have H0 : Hid (Book lo w.heap.size (w.alloc (.map #[] 0)) w.heap.size 0 (F.take 0)) := ⟨_, World.ownsMap_made (H := Value) w Tryd.prog 9 heldElem, fun _ _ => rfl, fun k al h => by simp [Ex.find] at h⟩
  clear hF hsz
  go_enter Tryd.func20, Tryd.ntmps20
  go_wp2
  go_loopw [13] (fun iv wr => ∃ i n : Nat, i ≤ F.length ∧ n ≤ i ∧ iv = .int .i64 i ∧ Hid (Book lo w.heap.size wr w.heap.size n (F.take i)) ∧ Hid (Below w.heap.size w wr)) (fun iv _ => F.length - (Lib.intOf iv).toNat)
  case atStart => exact ⟨0, 0, Nat.zero_le _, Nat.le_refl _, rfl, H0, (Below.refl _ _).alloc (Nat.le_refl _) _⟩
  case round =>
    clear H0 hmm
    obtain ⟨i, n, hi, hni, rfl, hBk, hB⟩ := hrel
    by_cases hlt : i < F.length
    · obtain ⟨a, v1, rfl, ha1, ha2, hAt, hIn⟩ := (HF.out.below hB.out (Nat.le_refl _)) i hlt
      obtain ⟨r1, cp1, hv1⟩ : ∃ r1 cp1, v1 = .slice r1 F[i].toF.length cp1 := by
        obtain ⟨r1, cp1, h, -⟩ := hIn.s1
        exact ⟨r1, cp1, h⟩
      rw [hv1] at hAt hIn
      have d0 := hAt.c0
      have d1 := hAt.c1
      clear hv1
      generalize F[i].toF.length = ln at *
      have hns := Hsz.out _ (List.getElem_mem hlt)
      have hsw := hB.out.size
      obtain ⟨V, hV⟩ : ∃ V, V = wr.alloc (bxL F[i].name (.slice r1 ln cp1)) := ⟨_, rfl⟩
      have hr0 : V.heap[wr.heap.size]? = some (bxL F[i].name (.slice r1 ln cp1)) := by rw [hV]; exact heap_alloc_at _ _
      have hVs : V.heap.size = wr.heap.size + 1 := by rw [hV]; simp
      have hBkV := mkHid (show Book lo w.heap.size V w.heap.size n (F.take i) from by rw [hV]; exact hBk.out.kept (row := none) (grown_alloc _ _ _) (by simp) (same_alloc _ _ _ _ hsw))
      have hInV := mkHid (show GAliasIn lo w.heap.size V F[i] (.slice r1 ln cp1) from by rw [hV]; exact hIn.same (same_alloc _ _ _ _ hsw))
      have hBV := mkHid (show Below w.heap.size w V from by rw [hV]; exact hB.out.alloc hsw _)
      have HV := mkHid hV.symm
      have hk := Go.WideMaps.keyOf_string_mk (P := Tryd.prog) (k := 9) Tryd.underlying9 (show F[i].name.size ≤ maxLen by unfold maxLen; omega)
      obtain ⟨D, hD, q1, q2⟩ := hBkV.out.own
      clear hAt hIn hBk hV
      cases hf : Ex.find (F.take i) F[i].name with
      | none =>
        have hhas := q1 _ hf
        have hat := atKey_of_not_has hhas (.held zeroA)
        have hno := mkHid hf
        have HF1 := mkHid q1
        have HF2 := mkHid q2
        clear q1 q2
        obtain ⟨x0, x1⟩ := two_cells hr0
        obtain ⟨X, hX⟩ : ∃ X, X = V.alloc (.cells #[.string ⟨#[]⟩, .slice none 0 0] 41) := ⟨_, rfl⟩
        have hDX : X.ownsMap Tryd.prog 9 heldElem w.heap.size n D := by rw [hX]; exact hD.kept (row := none) (grown_alloc _ _ _) (by simp)
        have hrX : X.heap[wr.heap.size]? = some (bxL F[i].name (.slice r1 ln cp1)) := by rw [hX, heap_alloc_old _ _ _ (by omega)]; exact hr0
        obtain ⟨y0, y1⟩ := two_cells hrX
        have HX := mkHid hX.symm
        have hsX : Same lo w.heap.size V X := by rw [hX]; exact same_alloc _ _ _ _ (by omega)
        have HSX := mkHid hsX
        have hXg := mkHid (show Below w.heap.size w X from by rw [hX]; exact hBV.out.alloc hBV.out.size _)
        have hfin := mkHid (fun (w' : World) (hD' : w'.ownsMap Tryd.prog 9 heldElem w.heap.size (n + 1) (D.put (keyL F[i].name) (.held (GAliasV F[i] (.slice r1 ln cp1))))) (hs : Same lo w.heap.size V w') => Book.put F i hlt hD HF1.out HF2.out hno.out hInV.out hD' hs)
        have HDX := mkHid hDX
        clear hX hsX hf HF1 HF2 hBkV hInV hno hDX
        unfold GAliasV at hfin
        generalize F[i].name = nm at *
        go_wp2_with (first | (at_lookup; rw [HV.out]; refine wpList_lookup_held _ rfl _ _ 46 rfl 9 41 lawTxt Tryd.underlying46 (zero_alias _) w.heap.size n D rfl hD _ _ rfl hk zeroA hat false hhas ?_) | (at_mapUpdate; rw [HX.out]; refine wpList_mapUpdate_own _ rfl _ _ _ 46 rfl 9 41 lawTxt Tryd.underlying46 _ w.heap.size n D rfl HDX.out (by unfold maxLen; omega) _ _ (keyL nm) rfl rfl hk (.held (.agg #[.string nm, .slice r1 ln cp1])) [] rfl ?_; intro w1 hown1 hg1; refine Hid.out ?_) | go_in)
        have hS1 := mkHid (hfin.out w1 hown1 (fun b h1 h2 => (hg1.block b (by have := hXg.out.size; omega) (by intro e; injection e with e; omega)).trans (HSX.out b h1 h2)))
        have hB1 := mkHid (hXg.out.grown hg1 hXg.out.size (fun j hj => by cases hj; exact Nat.le_refl _))
        clear hfin hown1 hg1 HX HSX hXg HDX hk hat hhas hD x0 x1 y0 y1 hrX hr0 d0 d1
        refine mkHid ?_
        go_wp2
        go_roundw
        case rel => exact ⟨i + 1, n + 1, by omega, by omega, by go_num, hS1, hB1⟩
        case measure => simp [Lib.intOf]; omega
      | some al =>
        obtain ⟨hhas, va, hat, hInA⟩ := q2 _ _ hf
        obtain ⟨⟨r2, cp2, rfl, -⟩⟩ := hInA
        obtain ⟨x0, x1⟩ := two_cells hr0
        have hS1 := mkHid (Book.skip F i hlt hBkV.out hf)
        unfold GAliasV at hat
        obtain ⟨X, hX⟩ : ∃ X, X = V.alloc (.cells #[.string al.name, .slice r2 al.toF.length cp2] 41) := ⟨_, rfl⟩
        have hS2 := mkHid (show Book lo w.heap.size X w.heap.size n (F.take (i + 1)) from by rw [hX]; exact hS1.out.kept (row := none) (grown_alloc _ _ _) (by simp) (same_alloc _ _ _ _ (by omega)))
        have hB1 := mkHid (show Below w.heap.size w X from by rw [hX]; exact hBV.out.alloc hBV.out.size _)
        have HX := mkHid hX.symm
        clear q1 q2 hf hBkV hInV hS1 hX
        generalize F[i].name = nm at *
        go_wp2_with (first | (at_lookup; rw [HV.out]; refine wpList_lookup_held _ rfl _ _ 46 rfl 9 41 lawTxt Tryd.underlying46 (zero_alias _) w.heap.size n D rfl hD _ _ rfl hk _ hat true hhas ?_) | go_in)
        rw [HX.out]
        go_roundw
        case rel => exact ⟨i + 1, n, by omega, by omega, by go_num, hS2, hB1⟩
        case measure => simp [Lib.intOf]; omega
    · have hS : Hid (Book lo w.heap.size wr w.heap.size n F) := by
        have := hBk.out
        rw [List.take_of_length_le (by omega)] at this
        exact this
      clear hBk
      go_wp2
      go_ret
      exact ⟨n, by omega, rfl, hS, hB.out⟩
end Go.Proofs.YtfkjbamjppnohaaDoor
