
/- The program's sets of texts: maps. -/
import Derived.Test.YtfkjbamjppnohaaDoorExPlain
import Derived.Maps.Own
import Derived.Maps.OwnSet
import Derived.Maps.Views
import Derived.StringKeys
namespace Go.Proofs.YtfkjbamjppnohaaDoor
open Go.RowKit Go.Lib Go.Maps
/-- A map that has just the texts L, each told once. -/
structure SetT (w : World) (m n : Nat) (L : List ByteArray) : Prop where
  own : ∃ D : DataW Unit, w.ownsMap Tryd.prog 9 unitElem m n D ∧ (∀ z : ByteArray, has D (.string z.data.toList) = Ex.isIn L z) ∧ Maps.size D = L.length
theorem lawTxt : Keyed Tryd.prog 9 := string_keyed Tryd.underlying9
theorem SetT.made (w : World) : SetT (w.alloc (.map #[] 0)) w.heap.size 0 [] :=
  ⟨_, World.ownsMap_made (H := Unit) w Tryd.prog 9 unitElem, fun _ => rfl, rfl⟩
theorem SetT.lt {w : World} {m n : Nat} {L : List ByteArray} (h : SetT w m n L) : m < w.heap.size := by
  obtain ⟨D, hD, _⟩ := h.own
  exact hD.lt
theorem SetT.kept {w w' : World} {m n : Nat} {L : List ByteArray} {row : Option Nat} (h : SetT w m n L) (hg : w.grownBy w' row) (hne : some m ≠ row) : SetT w' m n L := by
  obtain ⟨D, hD, hat⟩ := h.own
  exact ⟨D, hD.kept hg hne, hat⟩
theorem SetT.below {w w' : World} {m n : Nat} {L : List ByteArray} (h : SetT w m n L) (hb : Below w.heap.size w w') : SetT w' m n L :=
  h.kept (row := none) ⟨hb.os, hb.tape, hb.output, hb.size, fun k hk _ => hb.block k hk⟩ (by simp)
theorem SetT.nocell {w : World} {m n : Nat} {L : List ByteArray} (h : SetT w m n L) {p : Addr} {v : Value} (hp : w.cell? p = some v) : p.block ≠ m := by
  obtain ⟨D, ⟨es, clock, hb, _⟩, _⟩ := h.own
  intro e
  simp [World.cell?, e, hb] at hp
theorem key_ne {x z : ByteArray} (h : Ex.same x z = false) : (Lit.string z.data.toList) ≠ .string x.data.toList := by
  intro e
  injection e with e
  rw [Ex.same, e] at h
  simp at h
set_option maxHeartbeats 1000000 in
theorem implHasT (m n : Nat) (L : List ByteArray) (z : ByteArray) (w : World) (h : SetT w m n L) (hz : z.size ≤ 1048576) :
    Calls Tryd.prog 67 #[.map (some m), .string z] w fun e w' => e = .returned (.bool (Ex.isIn L z)) ∧ Below w.heap.size w w' := by
  obtain ⟨D, hD, hat, -⟩ := h.own
  have hk := Go.WideMaps.keyOf_string_mk (P := Tryd.prog) (k := 9) Tryd.underlying9 (show z.size ≤ maxLen by unfold maxLen; omega)
  have hzv : (zeroValue 88).run Tryd.prog w = .ok (.agg #[]) w := by kernel_rfl
  have hS := hat z
  generalize Ex.isIn L z = b at *
  clear hat
  go_enter Tryd.func67, Tryd.ntmps67
  go_wp2_with (first | (at_lookup; refine wpList_lookup_own_unit _ rfl _ _ 70 rfl 9 88 lawTxt Tryd.underlying70 hzv m n D rfl hD _ _ rfl hk ?_; rw [hS]) | go_in)
  go_ret
  exact ⟨rfl, (Below.refl _ _).alloc (Nat.le_refl _) _⟩
set_option maxHeartbeats 2000000 in
theorem implAddT (m n b c : Nat) (L : List ByteArray) (k : ByteArray) (w : World) (h : SetT w m n L) (hc : w.cell? ⟨b, 0, none⟩ = some (.string k)) (hk1 : k.size ≤ 1048576) (hno : Ex.isIn L k = false) (hn : n ≤ 100000) :
    Calls Tryd.prog 68 #[.map (some m), .slice (some ⟨b, 0, none⟩) 1 c] w fun e w' => e = .returned (.tuple #[]) ∧ Hid (SetT w' m (n + 1) (L ++ [k])) ∧ Hid (w.grownBy w' (some m)) := by
  have hnc := h.nocell hc
  obtain ⟨D, hD, hat, hsz⟩ := h.own
  have hk := Go.WideMaps.keyOf_string_mk (P := Tryd.prog) (k := 9) Tryd.underlying9 (show k.size ≤ maxLen by unfold maxLen; omega)
  have hnext : Hid (∀ (w' : World), w'.ownsMap Tryd.prog 9 unitElem m (n + 1) (D.put (.string k.data.toList) (.agg [])) → SetT w' m (n + 1) (L ++ [k])) := by
    intro w' hw'
    refine ⟨_, hw', fun x => ?_, ?_⟩
    · rw [Ex.isIn_app]
      cases e : Ex.same k x
      · rw [has_put_other (key_ne e), hat x, Bool.or_false]
      · obtain rfl := (Ex.same_iff k x).1 e
        rw [has_put_same (k := .string k.data.toList) hD.isMap trivial, Bool.or_true]
    · rw [size_put (hD.tidy lawTxt), hat k, hno, hsz, List.length_append]
      rfl
  have HD := mkHid hD
  clear h hat hsz hD
  go_enter Tryd.func68, Tryd.ntmps68
  go_wp2
  go_loopw [8] (fun iv wr => (iv = .int .i64 0 ∧ wr = w) ∨ (iv = .int .i64 1 ∧ Hid (SetT wr m (n + 1) (L ++ [k])) ∧ Hid (w.grownBy wr (some m)))) (fun iv _ => 1 - (Lib.intOf iv).toNat)
  case atStart => exact .inl ⟨rfl, rfl⟩
  case round =>
    rcases hrel with ⟨rfl, rfl⟩ | ⟨rfl, hS, hg⟩
    · go_wp2_with (first | (at_mapUpdate; refine wpList_mapUpdate_own _ rfl _ _ _ 70 rfl 9 88 lawTxt Tryd.underlying70 _ m n D rfl HD.out (by unfold maxLen; omega) _ _ (.string k.data.toList) rfl rfl hk (.agg []) [] unitElem_mk ?_; intro w1 hown1 hg1; refine Hid.out ?_) | go_in)
      have hS1 := mkHid (hnext.out w1 hown1)
      have hg2 := mkHid hg1
      clear hnext hown1 hg1 HD hk hc
      refine mkHid ?_
      go_wp2
      go_roundw
      case rel => exact .inr ⟨by go_num, hS1, hg2⟩
      case measure => simp [Lib.intOf]
    · clear hnext HD hk hc
      go_wp2
      exact bodyPost_end (v := .tuple #[]) (results_none Tryd.results68 _ _ _) rfl ⟨rfl, hS, hg⟩
set_option maxHeartbeats 2000000 in
theorem implDropT (m n b c : Nat) (L : List ByteArray) (k : ByteArray) (w : World) (h : SetT w m n (L ++ [k])) (hc : w.cell? ⟨b, 0, none⟩ = some (.string k)) (hk1 : k.size ≤ 1048576) (hno : Ex.isIn L k = false) :
    Calls Tryd.prog 76 #[.map (some m), .slice (some ⟨b, 0, none⟩) 1 c] w fun e w' => e = .returned (.tuple #[]) ∧ Hid (SetT w' m n L) ∧ Hid (w.grownBy w' (some m)) := by
  have hnc := h.nocell hc
  obtain ⟨D, hD, hat, hsz⟩ := h.own
  have hk := Go.WideMaps.keyOf_string_mk (P := Tryd.prog) (k := 9) Tryd.underlying9 (show k.size ≤ maxLen by unfold maxLen; omega)
  have hnext : Hid (∀ (w' : World), w'.ownsMap Tryd.prog 9 unitElem m n (D.del (.string k.data.toList)) → SetT w' m n L) := by
    intro w' hw'
    refine ⟨_, hw', fun x => ?_, ?_⟩
    · cases e : Ex.same k x
      · rw [has_del_other (key_ne e), hat x, Ex.isIn_app, e, Bool.or_false]
      · obtain rfl := (Ex.same_iff k x).1 e
        rw [has_del_same, hno]
    · have h1 := size_del (k := .string k.data.toList) (hD.tidy lawTxt)
      rw [hat k, Ex.isIn_app, (Ex.same_iff k k).2 rfl, Bool.or_true, if_pos rfl, hsz, List.length_append] at h1
      simpa using h1
  have HD := mkHid hD
  clear h hat hsz hD
  go_enter Tryd.func76, Tryd.ntmps76
  go_wp2
  go_loopw [8] (fun iv wr => (iv = .int .i64 0 ∧ wr = w) ∨ (iv = .int .i64 1 ∧ Hid (SetT wr m n L) ∧ Hid (w.grownBy wr (some m)))) (fun iv _ => 1 - (Lib.intOf iv).toNat)
  case atStart => exact .inl ⟨rfl, rfl⟩
  case round =>
    rcases hrel with ⟨rfl, rfl⟩ | ⟨rfl, hS, hg⟩
    · go_wp2_with (first | (at_delete; refine wpList_delete_own _ rfl _ _ 70 9 rfl 88 lawTxt Tryd.underlying70 _ m n D rfl HD.out _ _ rfl hk ?_; intro w1 hown1 hturn1; refine Hid.out ?_) | go_in)
      have hS1 := mkHid (hnext.out w1 hown1)
      have hg2 := mkHid hturn1.grown
      clear hnext hown1 hturn1 HD hk hc
      refine mkHid ?_
      go_wp2
      go_roundw
      case rel => exact .inr ⟨by go_num, hS1, hg2⟩
      case measure => simp [Lib.intOf]
    · clear hnext HD hk hc
      go_wp2
      exact bodyPost_end (v := .tuple #[]) (results_none Tryd.results76 _ _ _) rfl ⟨rfl, hS, hg⟩
end Go.Proofs.YtfkjbamjppnohaaDoor
