
/- The program's sets of texts: maps. -/

/- The program's book of aliases: a map. -/

/- Lists of texts that a call has made by appends. -/

/- The program's walk through aliases: one address found, a step back. -/
import Derived.Test.YtdjghniinnfncaaGreatDoorExPlain
import Derived.Maps.Own
import Derived.Maps.OwnSet
import Derived.Maps.Views
import Derived.StringKeys
import Derived.Test.YtdjghniinnfncaaGreatDoorGenBase
import Derived.Test.YtdjghniinnfncaaGreatDoorAnyVals
namespace Go.Proofs.YtdjghniinnfncaaGreatDoor
open Go.RowKit Go.Lib Go.Maps
/-- A map that has just the texts L, each told once. -/
structure SetT (w : World) (m n : Nat) (L : List ByteArray) : Prop where
  own : ∃ D : DataW Unit, w.ownsMap Tryz.prog 9 unitElem m n D ∧ (∀ z : ByteArray, has D (.string z.data.toList) = Ex.isIn L z) ∧ Maps.size D = L.length
set_option maxRecDepth 20000 in
theorem lawTxt : Keyed Tryz.prog 9 := string_keyed Tryz.underlying9
set_option maxRecDepth 20000 in
theorem SetT.made (w : World) : SetT (w.alloc (.map #[] 0)) w.heap.size 0 [] :=
  ⟨_, World.ownsMap_made (H := Unit) w Tryz.prog 9 unitElem, fun _ => rfl, rfl⟩
set_option maxRecDepth 20000 in
theorem SetT.lt {w : World} {m n : Nat} {L : List ByteArray} (h : SetT w m n L) : m < w.heap.size := by
  obtain ⟨D, hD, _⟩ := h.own
  exact hD.lt
set_option maxRecDepth 20000 in
theorem SetT.kept {w w' : World} {m n : Nat} {L : List ByteArray} {row : Option Nat} (h : SetT w m n L) (hg : w.grownBy w' row) (hne : some m ≠ row) : SetT w' m n L := by
  obtain ⟨D, hD, hat⟩ := h.own
  exact ⟨D, hD.kept hg hne, hat⟩
set_option maxRecDepth 20000 in
theorem SetT.below {w w' : World} {m n : Nat} {L : List ByteArray} (h : SetT w m n L) (hb : Below w.heap.size w w') : SetT w' m n L :=
  h.kept (row := none) ⟨hb.os, hb.tape, hb.output, hb.size, fun k hk _ => hb.block k hk⟩ (by simp)
set_option maxRecDepth 20000 in
theorem SetT.nocell {w : World} {m n : Nat} {L : List ByteArray} (h : SetT w m n L) {p : Addr} {v : Value} (hp : w.cell? p = some v) : p.block ≠ m := by
  obtain ⟨D, ⟨es, clock, hb, _⟩, _⟩ := h.own
  intro e
  simp [World.cell?, e, hb] at hp
set_option maxRecDepth 20000 in
theorem key_ne {x z : ByteArray} (h : Ex.same x z = false) : (Lit.string z.data.toList) ≠ .string x.data.toList := by
  intro e
  injection e with e
  rw [Ex.same, e] at h
  simp at h
set_option maxRecDepth 20000 in
set_option maxHeartbeats 1000000 in
theorem implHasT (m n : Nat) (L : List ByteArray) (z : ByteArray) (w : World) (h : SetT w m n L) (hz : z.size ≤ 1048576) :
    Calls Tryz.prog 50 #[.map (some m), .string z] w fun e w' => e = .returned (.bool (Ex.isIn L z)) ∧ Below w.heap.size w w' := by
  obtain ⟨D, hD, hat, -⟩ := h.own
  have hk := Go.WideMaps.keyOf_string_mk (P := Tryz.prog) (k := 9) Tryz.underlying9 (show z.size ≤ maxLen by unfold maxLen; omega)
  have hzv : (zeroValue 99).run Tryz.prog w = .ok (.agg #[]) w := by kernel_rfl
  have hS := hat z
  generalize Ex.isIn L z = b at *
  clear hat
  go_enter Tryz.func50, Tryz.ntmps50
  go_wp2_with (first | (at_lookup; refine wpList_lookup_own_unit _ rfl _ _ 73 rfl 9 99 lawTxt Tryz.underlying73 hzv m n D rfl hD _ _ rfl hk ?_; rw [hS]) | go_in)
  go_ret
  exact ⟨rfl, (Below.refl _ _).alloc (Nat.le_refl _) _⟩
set_option maxRecDepth 20000 in
set_option maxHeartbeats 2000000 in
theorem implAddT (m n b c : Nat) (L : List ByteArray) (k : ByteArray) (w : World) (h : SetT w m n L) (hc : w.cell? ⟨b, 0, none⟩ = some (.string k)) (hk1 : k.size ≤ 1048576) (hno : Ex.isIn L k = false) (hn : n ≤ 100000) :
    Calls Tryz.prog 51 #[.map (some m), .slice (some ⟨b, 0, none⟩) 1 c] w fun e w' => e = .returned (.tuple #[]) ∧ Hid (SetT w' m (n + 1) (L ++ [k])) ∧ Hid (w.grownBy w' (some m)) := by
  have hnc := h.nocell hc
  obtain ⟨D, hD, hat, hsz⟩ := h.own
  have hk := Go.WideMaps.keyOf_string_mk (P := Tryz.prog) (k := 9) Tryz.underlying9 (show k.size ≤ maxLen by unfold maxLen; omega)
  have hnext : Hid (∀ (w' : World), w'.ownsMap Tryz.prog 9 unitElem m (n + 1) (D.put (.string k.data.toList) (.agg [])) → SetT w' m (n + 1) (L ++ [k])) := by
    intro w' hw'
    refine ⟨_, hw', fun x => ?_, ?_⟩
    · rw [Ex.isIn_app]
      cases e : Ex.same k x
      · rw [has_put_other (key_ne e), hat x, Bool.or_false]
      · obtain rfl := (Ex.same_iff k x).1 e
        rw [has_put_same (k := .string k.data.toList) hD.isMap trivial, Bool.or_true]
    · rw [size_put (hD.tidy lawTxt), hat k, hno, hsz, List.length_append]
      rfl
  have HD := mkHid hD
  clear h hat hsz hD
  go_enter Tryz.func51, Tryz.ntmps51
  go_wp2
  go_loopw [8] (fun iv wr => (iv = .int .i64 0 ∧ wr = w) ∨ (iv = .int .i64 1 ∧ Hid (SetT wr m (n + 1) (L ++ [k])) ∧ Hid (w.grownBy wr (some m)))) (fun iv _ => 1 - (Lib.intOf iv).toNat)
  case atStart => exact .inl ⟨rfl, rfl⟩
  case round =>
    rcases hrel with ⟨rfl, rfl⟩ | ⟨rfl, hS, hg⟩
    · go_wp2_with (first | (at_mapUpdate; refine wpList_mapUpdate_own _ rfl _ _ _ 73 rfl 9 99 lawTxt Tryz.underlying73 _ m n D rfl HD.out (by unfold maxLen; omega) _ _ (.string k.data.toList) rfl rfl hk (.agg []) [] unitElem_mk ?_; intro w1 hown1 hg1; refine Hid.out ?_) | go_in)
      have hS1 := mkHid (hnext.out w1 hown1)
      have hg2 := mkHid hg1
      clear hnext hown1 hg1 HD hk hc
      refine mkHid ?_
      go_wp2
      go_roundw
      case rel => exact .inr ⟨by go_num, hS1, hg2⟩
      case measure => simp [Lib.intOf]
    · clear hnext HD hk hc
      go_wp2
      exact bodyPost_end (v := .tuple #[]) (results_none Tryz.results51 _ _ _) rfl ⟨rfl, hS, hg⟩
set_option maxRecDepth 20000 in
set_option maxHeartbeats 2000000 in
theorem implDropT (m n b c : Nat) (L : List ByteArray) (k : ByteArray) (w : World) (h : SetT w m n (L ++ [k])) (hc : w.cell? ⟨b, 0, none⟩ = some (.string k)) (hk1 : k.size ≤ 1048576) (hno : Ex.isIn L k = false) :
    Calls Tryz.prog 94 #[.map (some m), .slice (some ⟨b, 0, none⟩) 1 c] w fun e w' => e = .returned (.tuple #[]) ∧ Hid (SetT w' m n L) ∧ Hid (w.grownBy w' (some m)) := by
  have hnc := h.nocell hc
  obtain ⟨D, hD, hat, hsz⟩ := h.own
  have hk := Go.WideMaps.keyOf_string_mk (P := Tryz.prog) (k := 9) Tryz.underlying9 (show k.size ≤ maxLen by unfold maxLen; omega)
  have hnext : Hid (∀ (w' : World), w'.ownsMap Tryz.prog 9 unitElem m n (D.del (.string k.data.toList)) → SetT w' m n L) := by
    intro w' hw'
    refine ⟨_, hw', fun x => ?_, ?_⟩
    · cases e : Ex.same k x
      · rw [has_del_other (key_ne e), hat x, Ex.isIn_app, e, Bool.or_false]
      · obtain rfl := (Ex.same_iff k x).1 e
        rw [has_del_same, hno]
    · have h1 := size_del (k := .string k.data.toList) (hD.tidy lawTxt)
      rw [hat k, Ex.isIn_app, (Ex.same_iff k k).2 rfl, Bool.or_true, if_pos rfl, hsz, List.length_append] at h1
      simpa using h1
  have HD := mkHid hD
  clear h hat hsz hD
  go_enter Tryz.func94, Tryz.ntmps94
  go_wp2
  go_loopw [8] (fun iv wr => (iv = .int .i64 0 ∧ wr = w) ∨ (iv = .int .i64 1 ∧ Hid (SetT wr m n L) ∧ Hid (w.grownBy wr (some m)))) (fun iv _ => 1 - (Lib.intOf iv).toNat)
  case atStart => exact .inl ⟨rfl, rfl⟩
  case round =>
    rcases hrel with ⟨rfl, rfl⟩ | ⟨rfl, hS, hg⟩
    · go_wp2_with (first | (at_delete; refine wpList_delete_own _ rfl _ _ 73 9 rfl 99 lawTxt Tryz.underlying73 _ m n D rfl HD.out _ _ rfl hk ?_; intro w1 hown1 hturn1; refine Hid.out ?_) | go_in)
      have hS1 := mkHid (hnext.out w1 hown1)
      have hg2 := mkHid hturn1.grown
      clear hnext hown1 hturn1 HD hk hc
      refine mkHid ?_
      go_wp2
      go_roundw
      case rel => exact .inr ⟨by go_num, hS1, hg2⟩
      case measure => simp [Lib.intOf]
    · clear hnext HD hk hc
      go_wp2
      exact bodyPost_end (v := .tuple #[]) (results_none Tryz.results94 _ _ _) rfl ⟨rfl, hS, hg⟩
end Go.Proofs.YtdjghniinnfncaaGreatDoor
namespace Go.Proofs.YtdjghniinnfncaaGreatDoor
open Go.RowKit Go.Lib Go.Maps
def heldElem (v : Value) : Option (DataW Value × List MemPlace) := some (.held v, [])
set_option maxRecDepth 20000 in
theorem heldElem_inv {v u : Value} {ps : List MemPlace} (h : heldElem v = some (.held u, ps)) : v = u := by
  unfold heldElem at h
  simp at h
  exact h.1
abbrev zeroA : Value := .agg #[.string ⟨#[]⟩, .slice none 0 0]
def keyL (k : ByteArray) : Lit := .string k.data.toList
/-- A map that has, of the aliases A, the first of each name. -/
structure Book (lo hi : Nat) (w : World) (m n : Nat) (A : List GAlias) : Prop where
  own : ∃ D : DataW Value, w.ownsMap Tryz.prog 9 heldElem m n D ∧ (∀ k : ByteArray, Ex.find A k = none → has D (keyL k) = false) ∧
    ∀ (k : ByteArray) (al : GAlias), Ex.find A k = some al → has D (keyL k) = true ∧ ∃ v, D.atKey (keyL k) (.held zeroA) = .held (GAliasV al v) ∧ GAliasIn lo hi w al v
set_option maxRecDepth 20000 in
theorem Book.kept {lo hi : Nat} {w w' : World} {m n : Nat} {A : List GAlias} {row : Option Nat} (h : Book lo hi w m n A) (hg : w.grownBy w' row) (hne : some m ≠ row) (hs : Same lo hi w w') : Book lo hi w' m n A := by
  obtain ⟨D, hD, h1, h2⟩ := h.own
  exact ⟨D, hD.kept hg hne, h1, fun k al hk => by
    obtain ⟨a, v, b, c⟩ := h2 k al hk
    exact ⟨a, v, b, c.same hs⟩⟩
set_option maxRecDepth 20000 in
theorem Book.lt {lo hi : Nat} {w : World} {m n : Nat} {A : List GAlias} (h : Book lo hi w m n A) : m < w.heap.size := by
  obtain ⟨D, hD, _⟩ := h.own
  exact hD.lt
set_option maxRecDepth 20000 in
theorem Book.nocell {lo hi : Nat} {w : World} {m n : Nat} {A : List GAlias} (h : Book lo hi w m n A) {p : Addr} {v : Value} (hp : w.cell? p = some v) : p.block ≠ m := by
  obtain ⟨D, ⟨es, clock, hb, _⟩, _⟩ := h.own
  intro e
  simp [World.cell?, e, hb] at hp
set_option maxRecDepth 20000 in
theorem Ex.find_take (F : List GAlias) (i : Nat) (h : i < F.length) (k : ByteArray) : Ex.find (F.take (i + 1)) k = (Ex.find (F.take i) k).or (if Ex.same F[i].name k then some F[i] else none) := by
  rw [List.take_succ_eq_append_getElem h]
  unfold Ex.find
  rw [List.find?_append]
  congr 1
  rw [List.find?_cons]
  cases Ex.same F[i].name k <;> rfl
set_option maxRecDepth 20000 in
theorem keyL_ne {x z : ByteArray} (h : Ex.same x z = false) : keyL z ≠ keyL x := key_ne h
set_option maxRecDepth 20000 in
/-- One alias more, of a name that was not there. -/
theorem Book.put {lo hi : Nat} {w w' : World} {m n : Nat} (F : List GAlias) (i : Nat) (h : i < F.length) {v : Value} {D : DataW Value} (hD : w.ownsMap Tryz.prog 9 heldElem m n D)
    (h1 : ∀ k : ByteArray, Ex.find (F.take i) k = none → has D (keyL k) = false)
    (h2 : ∀ (k : ByteArray) (al : GAlias), Ex.find (F.take i) k = some al → has D (keyL k) = true ∧ ∃ v, D.atKey (keyL k) (.held zeroA) = .held (GAliasV al v) ∧ GAliasIn lo hi w al v)
    (hno : Ex.find (F.take i) F[i].name = none) (hv : GAliasIn lo hi w F[i] v) (hD' : w'.ownsMap Tryz.prog 9 heldElem m (n + 1) (D.put (keyL F[i].name) (.held (GAliasV F[i] v)))) (hs : Same lo hi w w') : Book lo hi w' m (n + 1) (F.take (i + 1)) := by
  refine ⟨_, hD', ?_, ?_⟩
  · intro k hk
    rw [Ex.find_take F i h] at hk
    cases e : Ex.same F[i].name k
    · rw [e] at hk
      rw [has_put_other (keyL_ne e)]
      exact h1 k (by cases hf : Ex.find (F.take i) k with
        | none => rfl
        | some a => rw [hf] at hk; simp at hk)
    · rw [e] at hk
      cases hf : Ex.find (F.take i) k <;> rw [hf] at hk <;> simp at hk
  · intro k al hk
    rw [Ex.find_take F i h] at hk
    cases e : Ex.same F[i].name k
    · rw [e] at hk
      have hk' : Ex.find (F.take i) k = some al := by
        cases hf : Ex.find (F.take i) k with
        | none => rw [hf] at hk; simp at hk
        | some a => rw [hf] at hk; simpa using hk
      obtain ⟨a, v', b, c⟩ := h2 k al hk'
      rw [has_put_other (keyL_ne e), atKey_put_other (keyL_ne e)]
      exact ⟨a, v', b, c.same hs⟩
    · obtain rfl := (Ex.same_iff _ _).1 e
      rw [hno, e] at hk
      obtain rfl : F[i] = al := by simpa using hk
      rw [has_put_same (k := keyL F[i].name) hD.isMap trivial, atKey_put_same (k := keyL F[i].name) hD.isMap trivial]
      exact ⟨rfl, v, rfl, hv.same hs⟩
set_option maxRecDepth 20000 in
theorem Book.skip {lo hi : Nat} {w : World} {m n : Nat} (F : List GAlias) (i : Nat) (h : i < F.length) {al : GAlias} (hb : Book lo hi w m n (F.take i)) (hyes : Ex.find (F.take i) F[i].name = some al) : Book lo hi w m n (F.take (i + 1)) := by
  have e : ∀ k, Ex.find (F.take (i + 1)) k = Ex.find (F.take i) k := by
    intro k
    rw [Ex.find_take F i h]
    cases e : Ex.same F[i].name k
    · simp
    · obtain rfl := (Ex.same_iff _ _).1 e
      rw [hyes]
      rfl
  obtain ⟨D, hD, h1, h2⟩ := hb.own
  exact ⟨D, hD, fun k hk => h1 k (by rw [← e]; exact hk), fun k al hk => h2 k al (by rw [← e]; exact hk)⟩
set_option maxRecDepth 20000 in
theorem wpList_lookup_held {P : Program} (w : World) {ops : Array Oper} {rest : List Oper} {o : Oper} {a : Act} {Q : Exit → Act → World → Prop} (hg : o.guard = none) (m x : Operand) (t : TypeId) (hop : o.op = Op.lookup t m x true)
    (k e : TypeId) (K : Keyed P k) (ht : P.underlying t = some (.map k e)) {z : Value} (hz : (zeroValue e).run P w = .ok z w) (b n : Nat) (D : DataW Value)
    (hm : a.eval m = .map (some b)) (hown : w.ownsMap P k heldElem b n D) (key : Value) (kl : Lit) (hx : a.eval x = key) (hkey : keyOf P k key = some kl) (u : Value) (hat : D.atKey kl (.held z) = .held u) (c : Bool) (hc : has D kl = c)
    (hK : wpList P ops Q rest (a.put o.dst (.tuple #[u, .bool c])) w) : wpList P ops Q (o :: rest) a w :=
  wpList_lookup_own_ok w hg m x t hop k e K ht heldElem hz (.held z) [] rfl b n D hm hown key kl hx hkey (fun v ps hv => by
    rw [hat] at hv
    obtain rfl := heldElem_inv hv
    rw [hc]
    exact hK)
set_option maxRecDepth 20000 in
theorem zero_alias (w : World) : (zeroValue 32).run Tryz.prog w = .ok zeroA w := by kernel_rfl
set_option maxRecDepth 20000 in
theorem grown_alloc (w : World) (o : Obj) (row : Option Nat) : w.grownBy (w.alloc o) row := by
  have hb : Below w.heap.size w (w.alloc o) := (Below.refl _ _).alloc (Nat.le_refl _) _
  exact ⟨hb.os, hb.tape, hb.output, hb.size, fun k hk _ => hb.block k hk⟩
set_option maxRecDepth 20000 in
theorem same_alloc (w : World) (o : Obj) (lo hi : Nat) (h : hi ≤ w.heap.size) : Same lo hi w (w.alloc o) := Same.of_below ((Below.refl w.heap.size w).alloc (Nat.le_refl _) o) h
abbrev bxL (n : ByteArray) (v : Value) : Obj := .cells #[.string n, v] 32
set_option maxRecDepth 20000 in
set_option maxHeartbeats 4000000 in
theorem implBookOf (o : Option Addr) (F : List GAlias) (cap lo : Nat) (w : World) (hF : GAliassL lo w.heap.size w o F) (hl : F.length ≤ 100) (hsz : ∀ t ∈ F, t.name.size ≤ 1048576) :
    Calls Tryz.prog 20 #[.slice o F.length cap] w fun e w' => ∃ n, n ≤ 100 ∧ e = .returned (.map (some w.heap.size)) ∧ Hid (Book lo w.heap.size w' w.heap.size n F) ∧ Below w.heap.size w w' := by
  have hmm : (Instr.makeMap 50 (some (.int .i64 (F.length : Int)))).run Tryz.prog w = .ok (.map (some w.heap.size)) (w.alloc (.map #[] 0)) := by first | kernel_rfl | rfl
  have HF := mkHid hF
  have Hsz := mkHid hsz
  obtain ⟨G, hG⟩ : ∃ G, G = w.heap.size := ⟨_, rfl⟩
  have H0 : Hid (Book lo w.heap.size (w.alloc (.map #[] 0)) w.heap.size 0 (F.take 0)) := ⟨_, World.ownsMap_made (H := Value) w Tryz.prog 9 heldElem, fun _ _ => rfl, fun k al h => by simp [Ex.find] at h⟩
  clear hF hsz
  go_enter Tryz.func20, Tryz.ntmps20
  go_wp2
  go_loopw [13] (fun iv wr => ∃ i n : Nat, i ≤ F.length ∧ n ≤ i ∧ iv = .int .i64 i ∧ Hid (Book lo w.heap.size wr w.heap.size n (F.take i)) ∧ Hid (Below w.heap.size w wr)) (fun iv _ => F.length - (Lib.intOf iv).toNat)
  case atStart => exact ⟨0, 0, Nat.zero_le _, Nat.le_refl _, rfl, H0, (Below.refl _ _).alloc (Nat.le_refl _) _⟩
  case round =>
    clear H0 hmm
    obtain ⟨i, n, hi, hni, rfl, hBk, hB⟩ := hrel
    by_cases hlt : i < F.length
    · obtain ⟨a, v1, rfl, ha1, ha2, hAt, hIn⟩ := (HF.out.below hB.out (Nat.le_refl _)) i hlt
      obtain ⟨r1, cp1, hv1⟩ : ∃ r1 cp1, v1 = .slice r1 F[i].toF.length cp1 := by
        obtain ⟨r1, cp1, h, -⟩ := hIn.s1
        exact ⟨r1, cp1, h⟩
      rw [hv1] at hAt hIn
      have d0 := hAt.c0
      have d1 := hAt.c1
      clear hv1
      generalize F[i].toF.length = ln at *
      have hns := Hsz.out _ (List.getElem_mem hlt)
      have hsw := hB.out.size
      obtain ⟨V, hV⟩ : ∃ V, V = wr.alloc (bxL F[i].name (.slice r1 ln cp1)) := ⟨_, rfl⟩
      have hr0 : V.heap[wr.heap.size]? = some (bxL F[i].name (.slice r1 ln cp1)) := by rw [hV]; exact heap_alloc_at _ _
      have hVs : V.heap.size = wr.heap.size + 1 := by rw [hV]; simp
      have hBkV := mkHid (show Book lo w.heap.size V w.heap.size n (F.take i) from by rw [hV]; exact hBk.out.kept (row := none) (grown_alloc _ _ _) (by simp) (same_alloc _ _ _ _ hsw))
      have hInV := mkHid (show GAliasIn lo w.heap.size V F[i] (.slice r1 ln cp1) from by rw [hV]; exact hIn.same (same_alloc _ _ _ _ hsw))
      have hBV := mkHid (show Below w.heap.size w V from by rw [hV]; exact hB.out.alloc hsw _)
      have HV := mkHid hV.symm
      have hk := Go.WideMaps.keyOf_string_mk (P := Tryz.prog) (k := 9) Tryz.underlying9 (show F[i].name.size ≤ maxLen by unfold maxLen; omega)
      obtain ⟨D, hD, q1, q2⟩ := hBkV.out.own
      clear hAt hIn hBk hV
      cases hf : Ex.find (F.take i) F[i].name with
      | none =>
        have hhas := q1 _ hf
        have hat := atKey_of_not_has hhas (.held zeroA)
        have hno := mkHid hf
        have HF1 := mkHid q1
        have HF2 := mkHid q2
        clear q1 q2
        obtain ⟨x0, x1⟩ := two_cells hr0
        obtain ⟨X, hX⟩ : ∃ X, X = V.alloc (.cells #[.string ⟨#[]⟩, .slice none 0 0] 32) := ⟨_, rfl⟩
        have hDX : X.ownsMap Tryz.prog 9 heldElem w.heap.size n D := by rw [hX]; exact hD.kept (row := none) (grown_alloc _ _ _) (by simp)
        have hrX : X.heap[wr.heap.size]? = some (bxL F[i].name (.slice r1 ln cp1)) := by rw [hX, heap_alloc_old _ _ _ (by omega)]; exact hr0
        obtain ⟨y0, y1⟩ := two_cells hrX
        have HX := mkHid hX.symm
        have hsX : Same lo w.heap.size V X := by rw [hX]; exact same_alloc _ _ _ _ (by omega)
        have HSX := mkHid hsX
        have hXg := mkHid (show Below w.heap.size w X from by rw [hX]; exact hBV.out.alloc hBV.out.size _)
        have hfin := mkHid (fun (w' : World) (hD' : w'.ownsMap Tryz.prog 9 heldElem w.heap.size (n + 1) (D.put (keyL F[i].name) (.held (GAliasV F[i] (.slice r1 ln cp1))))) (hs : Same lo w.heap.size V w') => Book.put F i hlt hD HF1.out HF2.out hno.out hInV.out hD' hs)
        have HDX := mkHid hDX
        clear hX hsX hf HF1 HF2 hBkV hInV hno hDX
        unfold GAliasV at hfin
        generalize F[i].name = nm at *
        go_wp2_with (first | (at_lookup; rw [HV.out]; refine wpList_lookup_held _ rfl _ _ 50 rfl 9 32 lawTxt Tryz.underlying50 (zero_alias _) w.heap.size n D rfl hD _ _ rfl hk zeroA hat false hhas ?_) | (at_mapUpdate; rw [HX.out]; refine wpList_mapUpdate_own _ rfl _ _ _ 50 rfl 9 32 lawTxt Tryz.underlying50 _ w.heap.size n D rfl HDX.out (by unfold maxLen; omega) _ _ (keyL nm) rfl rfl hk (.held (.agg #[.string nm, .slice r1 ln cp1])) [] rfl ?_; intro w1 hown1 hg1; refine Hid.out ?_) | go_in)
        have hS1 := mkHid (hfin.out w1 hown1 (fun b h1 h2 => (hg1.block b (by have := hXg.out.size; omega) (by intro e; injection e with e; omega)).trans (HSX.out b h1 h2)))
        have hB1 := mkHid (hXg.out.grown hg1 hXg.out.size (fun j hj => by cases hj; exact Nat.le_refl _))
        clear hfin hown1 hg1 HX HSX hXg HDX hk hat hhas hD x0 x1 y0 y1 hrX hr0 d0 d1
        refine mkHid ?_
        go_wp2
        go_roundw
        case rel => exact ⟨i + 1, n + 1, by omega, by omega, by go_num, hS1, hB1⟩
        case measure => simp [Lib.intOf]; omega
      | some al =>
        obtain ⟨hhas, va, hat, hInA⟩ := q2 _ _ hf
        obtain ⟨⟨r2, cp2, rfl, -⟩⟩ := hInA
        obtain ⟨x0, x1⟩ := two_cells hr0
        have hS1 := mkHid (Book.skip F i hlt hBkV.out hf)
        unfold GAliasV at hat
        obtain ⟨X, hX⟩ : ∃ X, X = V.alloc (.cells #[.string al.name, .slice r2 al.toF.length cp2] 32) := ⟨_, rfl⟩
        have hS2 := mkHid (show Book lo w.heap.size X w.heap.size n (F.take (i + 1)) from by rw [hX]; exact hS1.out.kept (row := none) (grown_alloc _ _ _) (by simp) (same_alloc _ _ _ _ (by omega)))
        have hB1 := mkHid (show Below w.heap.size w X from by rw [hX]; exact hBV.out.alloc hBV.out.size _)
        have HX := mkHid hX.symm
        clear q1 q2 hf hBkV hInV hS1 hX
        generalize F[i].name = nm at *
        go_wp2_with (first | (at_lookup; rw [HV.out]; refine wpList_lookup_held _ rfl _ _ 50 rfl 9 32 lawTxt Tryz.underlying50 (zero_alias _) w.heap.size n D rfl hD _ _ rfl hk _ hat true hhas ?_) | go_in)
        rw [HX.out]
        go_roundw
        case rel => exact ⟨i + 1, n, by omega, by omega, by go_num, hS2, hB1⟩
        case measure => simp [Lib.intOf]; omega
    · have hS : Hid (Book lo w.heap.size wr w.heap.size n F) := by
        have := hBk.out
        rw [List.take_of_length_le (by omega)] at this
        exact this
      clear hBk
      go_wp2
      go_ret
      exact ⟨n, by omega, rfl, hS, hB.out⟩
end Go.Proofs.YtdjghniinnfncaaGreatDoor
namespace Go.Proofs.YtdjghniinnfncaaGreatDoor
open Go.RowKit Go.Lib Go.Maps
def strCellsX (P : List ByteArray) : List Value := P.map .string
/-- The slice v, whose array is among the blocks from B on, holds just the texts P. -/
def OwnX (B : Nat) (v : Value) (P : List ByteArray) (w : World) : Prop := w.ownsRow B 9 1 v P.length (strCellsX P)
set_option maxRecDepth 20000 in
theorem OwnX.nil (B : Nat) (w : World) : OwnX B (.slice none 0 0) [] w := World.ownsRow_nil w B 9 1
set_option maxRecDepth 20000 in
theorem OwnX.shape {B : Nat} {v : Value} {P : List ByteArray} {w : World} (h : OwnX B v P w) : ∃ o cap, v = .slice o P.length cap := by
  rcases h.2 with ⟨rfl, h0⟩ | ⟨g, cap, cur, rfl, -⟩
  · exact ⟨none, 0, by rw [h0]⟩
  · exact ⟨_, cap, rfl⟩
set_option maxRecDepth 20000 in
theorem OwnX.txL {B : Nat} {o : Option Addr} {cap : Nat} {P : List ByteArray} {w : World} (h : OwnX B (.slice o P.length cap) P w) : TxL B w.heap.size w o P := by
  intro i hi
  have hl := World.ownsRow.lt h
  rcases h.2 with ⟨h1, h0⟩ | ⟨g, cap', cur, h1, hB, -⟩
  · omega
  · simp only [Value.slice.injEq] at h1
    obtain ⟨rfl, -⟩ := h1
    exact ⟨_, rfl, hB, (hl g rfl).2, World.ownsRow.cells h (g := g) rfl i _ (by simp [strCellsX, hi])⟩
set_option maxRecDepth 20000 in
theorem OwnX.keep {B : Nat} {v : Value} {P : List ByteArray} {w w' : World} {row : Option Nat} (h : OwnX B v P w) (hg : w.grownBy w' row) (hne : v.ownBlock = none ∨ v.ownBlock ≠ row) : OwnX B v P w' := World.ownsRow.kept h hg hne
set_option maxRecDepth 20000 in
theorem OwnX.below {B : Nat} {v : Value} {P : List ByteArray} {w w' : World} (h : OwnX B v P w) (hb : Below w.heap.size w w') : OwnX B v P w' := World.ownsRow.kept h (row := none) ⟨hb.os, hb.tape, hb.output, hb.size, fun k hk _ => hb.block k hk⟩ (by
  cases hv : v.ownBlock with
  | none => exact .inl rfl
  | some k => exact .inr (by simp))
set_option maxRecDepth 20000 in
theorem Tryz.info9X : (Tryz.prog.info? 9).map (fun i => (i.zero, i.size, i.bytes)) = some (some (.string ⟨#[]⟩), 1, 16) := by kernel_rfl
set_option maxRecDepth 20000 in
theorem wp_appX {w : World} {ops : Array Oper} {rest : List Oper} {o : Oper} {a : Act} {Q : Exit → Act → World → Prop} (hgd : o.guard = none) (s x : Operand)
    (ho : o.op = .call { callee := .builtin .append, args := #[s, x], argTypes := #[26, 26] })
    (B : Nat) (v : Value) (C : List ByteArray) (hs : a.eval s = v) (hown : OwnX B v C w) (u : ByteArray)
    (c : Nat) (hx : a.eval x = .slice (some ⟨w.heap.size, 0, none⟩) 1 c) (hlen : C.length ≤ 1000000) (hB : B ≤ w.heap.size)
    (h : ∀ v' w', OwnX B v' (C ++ [u]) w' → (w.alloc (.cells #[.string u] 9)).grownBy w' v.ownBlock → wpList Tryz.prog ops Q rest (a.put o.dst v') w') : wpList Tryz.prog ops Q (o :: rest) a (w.alloc (.cells #[.string u] 9)) := by
  obtain ⟨i0, hi0, hz0, hz1, hz2⟩ := info_parts Tryz.info9X
  unfold OwnX at hown
  refine wpList_append_own _ hgd s x 26 ho B 9 i0 (.string ⟨#[]⟩) 1 16 Tryz.underlying26 hi0 hz0 hz1 hz2 rfl (by decide) v C.length (strCellsX C) hs (World.ownsRow.alloc hown _) ⟨w.heap.size, 0, none⟩ 1 c [.string u] hx
    rfl ?_ ?_ (by unfold maxLen; omega) (by omega) (by simp; omega) ?_
  · intro j y hj
    rw [add_off]
    match j, hj with
    | 0, hj => simp at hj; subst hj; simp
  · intro y hy
    simp at hy
    subst hy
    rfl
  · intro v' w' h1 h2 _
    refine h v' w' ?_ h2
    unfold OwnX strCellsX
    rw [List.map_append, List.length_append]
    exact h1
set_option maxRecDepth 20000 in
theorem OwnX.made (B : Nat) (w : World) (hB : B ≤ w.heap.size) : OwnX B (.slice (some ⟨w.heap.size, 0, none⟩) 0 0) [] (w.alloc (.cells #[] 9)) :=
  ⟨rfl, .inr ⟨w.heap.size, 0, #[], rfl, hB, heap_alloc_at _ _, Nat.le_refl _, Nat.zero_le _, rfl, rfl⟩⟩
end Go.Proofs.YtdjghniinnfncaaGreatDoor
namespace Go.Proofs.YtdjghniinnfncaaGreatDoor
open Go.RowKit Go.Lib Go.Maps
/-- Where the parts of an expansion lie. -/
structure Pl5 where
  lo : Nat
  hi : Nat
  b0 : Nat
  b1 : Nat
  b2 : Nat
  b3 : Nat
  g : Nat
  n0 : Nat
structure Pl5.ok (p : Pl5) : Prop where
  h0 : p.hi ≤ p.b0
  h1 : p.b0 < p.b1
  h2 : p.b1 < p.b2
  h3 : p.b2 < p.b3
  h4 : p.b3 < p.g
/-- An expansion of the aliases A in memory. -/
structure Ep (p : Pl5) (A : List GAlias) (way : List ByteArray) (s : Ex.St) (w : World) : Prop where
  blk : ∃ o c, w.heap[p.g]? = some (.cells #[.map (some p.b0), .map (some p.b1), .map (some p.b2), .map (some p.b3), .slice o s.out.length c] 75 (0, 0)) ∧ OwnX (p.g + 1) (.slice o s.out.length c) s.out w
  book : Book p.lo p.hi w p.b0 p.n0 A
  way : SetT w p.b1 (way.length + s.past.length) way
  gone : SetT w p.b2 s.past.length s.past
  found : SetT w p.b3 s.out.length s.out
set_option maxRecDepth 20000 in
theorem gr_of_below {w w' : World} (hb : Below w.heap.size w w') : w.grownBy w' none := ⟨hb.os, hb.tape, hb.output, hb.size, fun k hk _ => hb.block k hk⟩
set_option maxRecDepth 20000 in
theorem Ep.lt {p : Pl5} {A : List GAlias} {way : List ByteArray} {s : Ex.St} {w : World} (h : Ep p A way s w) : p.g < w.heap.size := by
  obtain ⟨o, c, h1, -⟩ := h.blk
  exact heap_lt h1
set_option maxRecDepth 20000 in
theorem Ep.below {p : Pl5} {A : List GAlias} {way : List ByteArray} {s : Ex.St} {w w' : World} (h : Ep p A way s w) (hp : p.ok) (hb : Below w.heap.size w w') : Ep p A way s w' := by
  have hl := h.lt
  have := hp.h0
  have := hp.h1
  have := hp.h2
  have := hp.h3
  have := hp.h4
  obtain ⟨o, c, h1, h2⟩ := h.blk
  exact ⟨⟨o, c, (hb.block p.g hl).trans h1, h2.below hb⟩, h.book.kept (gr_of_below hb) (by simp) (Same.of_below hb (by omega)), h.way.below hb, h.gone.below hb, h.found.below hb⟩
set_option maxRecDepth 20000 in
theorem own_ne {B b : Nat} {v : Value} {P : List ByteArray} {w : World} (h : OwnX B v P w) (hb : b < B) : v.ownBlock = none ∨ v.ownBlock ≠ some b := by
  cases hv : v.ownBlock with
  | none => exact .inl rfl
  | some k =>
    refine .inr ?_
    intro e
    have := (World.ownsRow.lt h k hv).1
    injection e with e
    omega
set_option maxRecDepth 20000 in
theorem cells5 {w : World} {g : Nat} {a b c d e : Value} {t : TypeId} {z : Nat × Nat} (h : w.heap[g]? = some (.cells #[a, b, c, d, e] t z)) :
    w.cell? ⟨g, 0, none⟩ = some a ∧ w.cell? ⟨g, 1, none⟩ = some b ∧ w.cell? ⟨g, 2, none⟩ = some c ∧ w.cell? ⟨g, 3, none⟩ = some d ∧ w.cell? ⟨g, 4, none⟩ = some e := by
  refine ⟨?_, ?_, ?_, ?_, ?_⟩ <;> simp [World.cell?, h]
set_option maxRecDepth 20000 in
/-- A change of one of the sets alone. -/
theorem Ep.turn {p : Pl5} {A : List GAlias} {way way' : List ByteArray} {s s' : Ex.St} {w w' : World} {b : Nat} (h : Ep p A way s w) (hp : p.ok) (hg : w.grownBy w' (some b)) (hb : p.b0 < b ∧ b < p.g) (ho : s'.out = s.out)
    (h1 : SetT w' p.b1 (way'.length + s'.past.length) way') (h2 : SetT w' p.b2 s'.past.length s'.past) (h3 : SetT w' p.b3 s'.out.length s'.out) : Ep p A way' s' w' := by
  have hl := h.lt
  have := hp.h0
  have := hp.h1
  have := hp.h2
  have := hp.h3
  have := hp.h4
  obtain ⟨o, c, q1, q2⟩ := h.blk
  refine ⟨⟨o, c, ?_, ?_⟩, h.book.kept hg (by intro e; injection e with e; omega) (fun k _ h2 => hg.block k (by omega) (by intro e; injection e with e; omega)), h1, h2, h3⟩
  · rw [ho, hg.block p.g hl (by intro e; injection e with e; omega)]
    exact q1
  · rw [ho]
    exact q2.keep hg (own_ne q2 (by omega))
set_option maxRecDepth 20000 in
set_option maxHeartbeats 2000000 in
theorem implStepBack (p : Pl5) (A : List GAlias) (way : List ByteArray) (s : Ex.St) (k : ByteArray) (w : World) (h : Ep p A (way ++ [k]) s w) (hp : p.ok) (hI : Ex.Inv A (way ++ [k]) s) (hA : A.length ≤ 100) (hk1 : k.size ≤ 1048576) (u : FrameMode) :
    CallsD Tryz.prog 83 #[.pointer (some ⟨p.g, 0, none⟩), .string k] u w fun e u' w' => u' = u ∧ (e = .returned (.tuple #[]) ∧ Hid (Ep p A way ⟨s.out, s.past ++ [k]⟩ w') ∧ Hid (Below p.b1 w w')) := by
  obtain ⟨o, c, q1, q2⟩ := h.blk
  obtain ⟨c0, c1, c2, c3, c4⟩ := cells5 q1
  have hl := h.lt
  have hshort := hI.short
  rw [List.length_append] at hshort
  have p0 := hp.h0
  have p1 := hp.h1
  have p2 := hp.h2
  have p3 := hp.h3
  have p4 := hp.h4
  have hnw : Ex.isIn way k = false ∧ Ex.isIn s.past k = false := by
    have hn := hI.nodup
    rw [List.append_assoc, List.nodup_append] at hn
    constructor
    · rw [Ex.isIn_no]
      intro hm
      exact hn.2.2 k hm k (by simp) rfl
    · rw [Ex.isIn_no]
      intro hm
      have := hn.2.1
      rw [List.nodup_append] at this
      exact this.2.2 k (by simp) k hm rfl
  obtain ⟨X, hX⟩ : ∃ X, X = w.alloc (.cells #[.string k] 9) := ⟨_, rfl⟩
  have hbX : Below w.heap.size w X := by rw [hX]; exact (Below.refl _ _).alloc (Nat.le_refl _) _
  have hcX : X.cell? ⟨w.heap.size, 0, none⟩ = some (.string k) := by rw [hX]; simp
  have hEX := h.below hp hbX
  have HX := mkHid hX.symm
  have cD := mkHid (implDropT p.b1 _ w.heap.size 1 way k X hEX.way hcX hk1 hnw.1)
  have HEX := mkHid hEX
  have HbX := mkHid hbX
  clear hX hEX hbX hcX
  go_enter_d Tryz.func83, Tryz.ntmps83
  go_wp2_with fail
  rw [HX.out]
  refine cD.out.mono ?_
  rintro e w1 ⟨rfl, hS1, hg1⟩
  have hlX : p.g < X.heap.size := HEX.out.lt
  have e1 := (World.cell?_of_block (w := X) (w' := w1) (a := ⟨p.g, 2, none⟩) (hg1.out.block p.g hlX (by intro e; injection e with e; omega))).trans ((cells5 (show X.heap[p.g]? = _ from (HbX.out.block p.g hl).trans q1)).2.2.1)
  obtain ⟨Y, hY⟩ : ∃ Y, Y = w1.alloc (.cells #[.string k] 9) := ⟨_, rfl⟩
  have hbY : Below w1.heap.size w1 Y := by rw [hY]; exact (Below.refl _ _).alloc (Nat.le_refl _) _
  have hcY : Y.cell? ⟨w1.heap.size, 0, none⟩ = some (.string k) := by rw [hY]; simp
  have hgone : SetT Y p.b2 s.past.length s.past := (HEX.out.gone.kept hg1.out (by intro e; injection e with e; omega)).below hbY
  have cA := mkHid (implAddT p.b2 s.past.length w1.heap.size 1 s.past k Y hgone hcY hk1 hnw.2 (by omega))
  have HY := mkHid hY.symm
  have HbY := mkHid hbY
  have hg1l : p.g < w1.heap.size := Nat.lt_of_lt_of_le hlX hg1.out.size
  have hYl : w1.heap.size ≤ Y.heap.size := hbY.size
  have hEp1 := mkHid (show ∀ w' : World, SetT w' p.b2 (s.past.length + 1) (s.past ++ [k]) → Y.grownBy w' (some p.b2) → Ep p A way ⟨s.out, s.past ++ [k]⟩ w' from fun w' hs hg => by
    have a1 : SetT Y p.b1 ((way ++ [k]).length + s.past.length) way := hS1.out.below HbY.out
    have a3 : SetT Y p.b3 s.out.length s.out := (HEX.out.found.kept hg1.out (by intro e; injection e with e; omega)).below HbY.out
    obtain ⟨o', c', r1, r2⟩ := HEX.out.blk
    have r2' := (r2.keep hg1.out (own_ne r2 (by omega))).below HbY.out
    have bk := (HEX.out.book.kept hg1.out (by intro e; injection e with e; omega) (fun k _ h2 => hg1.out.block k (by omega) (by intro e; injection e with e; omega))).kept (gr_of_below HbY.out) (by simp) (Same.of_below HbY.out (by omega))
    refine ⟨⟨o', c', (hg.block p.g (by omega) (by intro e; injection e with e; omega)).trans ((HbY.out.block p.g hg1l).trans ((hg1.out.block p.g hlX (by intro e; injection e with e; omega)).trans r1)), r2'.keep hg (own_ne r2' (by omega))⟩,
      bk.kept hg (by intro e; injection e with e; omega) (fun k _ h2 => hg.block k (by omega) (by intro e; injection e with e; omega)), ?_, ?_, a3.kept hg (by intro e; injection e with e; omega)⟩
    · have := a1.kept hg (by intro e; injection e with e; omega)
      rw [show (way ++ [k]).length + s.past.length = way.length + (s.past ++ [k]).length by simp; omega] at this
      exact this
    · rw [show (s.past ++ [k]).length = s.past.length + 1 by simp]
      exact hs)
  have hB1 : Hid (∀ w' : World, Y.grownBy w' (some p.b2) → Below p.b1 w w') := fun w' hg => by
    have z1 : Below p.b1 w X := HbX.out.mono (by omega)
    have z2 := z1.grown hg1.out (by omega) (fun j hj => by injection hj with hj; omega)
    have z3 := z2.trans (HbY.out.mono (by omega))
    exact z3.grown hg (by omega) (fun j hj => by injection hj with hj; omega)
  clear hgone hcY hY hbY cD hS1 hg1 HEX HbX HX
  go_wp2_with fail
  rw [HY.out]
  refine cA.out.mono ?_
  rintro e w2 ⟨rfl, hS2, hg2⟩
  have f1 := mkHid (hEp1.out w2 hS2.out hg2.out)
  have f2 := mkHid (hB1.out w2 hg2.out)
  clear hEp1 hB1 hS2 hg2 cA
  go_wp2
  exact bodyPost_end (v := .tuple #[]) (results_none Tryz.results83 _ _ _) rfl ⟨rfl, f1, f2⟩
end Go.Proofs.YtdjghniinnfncaaGreatDoor
