
/- The tests for a blank. -/

/- Lists of fields in memory: read, made anew, held against one another. -/

/- Drawn fields in memory. -/

/- A source of draws: values of fields. -/

/- Plain mathematics of dates: integers and bytes alone; no program. -/

/- The walks of the calendar. -/

/- The walks of the day in the calendar. -/

/- The walks of a date's digits. -/

/- The walks of the clock, the zone and the year. -/
import Derived.Test.YtillilllceeonaaDoorDraw
import Derived.Test.YtillilllceeonaaDoorAlRow
import Derived.Laws.MakeOwn
import Derived.Laws.OwnMore
import Derived.Deep.QuietTactic
import Derived.BigQuiet
import Derived.Deep.RegionWith
import Derived.Test.YtillilllceeonaaDoorSpecAddrs
import Derived.Test.YtillilllceeonaaDoorAnyPhase
import Derived.WalkKit
import Derived.Test.YtillilllceeonaaDoorChecked
import Derived.WalkLawsBesides
import Derived.WalkSpells
import Derived.Lib.ItoaNum
import Derived.Lib.AppendIntMem
namespace Go.Proofs.YtillilllceeonaaDoor
open Go.RowKit Go.Lib
set_option maxRecDepth 20000 in
/-- The two tests for a blank. -/
theorem blank_cases (c : UInt8) : ((c.toNat : Int) == 32) = true ∧ Pl.blank c = true ∨ ((c.toNat : Int) == 32) = false ∧ ((c.toNat : Int) == 9) = true ∧ Pl.blank c = true ∨ ((c.toNat : Int) == 32) = false ∧ ((c.toNat : Int) == 9) = false ∧ Pl.blank c = false := by
  cases h : ((c.toNat : Int) == 32)
  · cases h9 : ((c.toNat : Int) == 9)
    · exact .inr (.inr ⟨rfl, rfl, by simp [Pl.blank, Pl.byte_ne c 32 _ rfl h, Pl.byte_ne c 9 _ rfl h9]⟩)
    · exact .inr (.inl ⟨rfl, rfl, by rw [Pl.byte_eq c 9 _ rfl h9]; rfl⟩)
  · exact .inl ⟨rfl, by rw [Pl.byte_eq c 32 _ rfl h]; rfl⟩
set_option maxRecDepth 20000 in
theorem specBlank (c : UInt8) (w : World) : Calls Tryd.prog 70 #[.int .u8 (c.toNat : Int)] w fun e w' => e = .returned (.bool (Pl.blank c)) ∧ w = w' := by
  rcases blank_cases c with ⟨h, hb⟩ | ⟨h, h9, hb⟩ | ⟨h, h9, hb⟩ <;> rw [hb] <;> clear hb
  all_goals
    go_enter Tryd.func70, Tryd.ntmps70
    go_wp2
    go_ret
    exact ⟨rfl, rfl⟩
end Go.Proofs.YtillilllceeonaaDoor
namespace Go.Proofs.YtillilllceeonaaDoor
open Go.RowKit Go.Lib
abbrev Fd := ByteArray × ByteArray
/-- The slice's elements, below a block, are these fields. -/
def Fld (B : Nat) (w : World) (o : Option Addr) (F : List Fd) : Prop :=
  ∀ i (h : i < F.length), ∃ a, o = some a ∧ a.block < B ∧ w.cell? (a.add (i * 2)) = some (.string F[i].1) ∧ w.cell? ⟨(a.add (i * 2)).block, (a.add (i * 2)).off + 1, none⟩ = some (.string F[i].2)
set_option maxRecDepth 20000 in
theorem add_block (a : Addr) (n : Nat) : (a.add n).block = a.block := by unfold Addr.add; split <;> rfl
set_option maxRecDepth 20000 in
theorem Fld.below {B : Nat} {w w' : World} {o : Option Addr} {F : List Fd} (h : Fld B w o F) (hb : Below B w w') : Fld B w' o F := by
  intro i hi
  obtain ⟨a, ho, ha, h0, h1⟩ := h i hi
  exact ⟨a, ho, ha, (hb.cell (by rw [add_block]; exact ha)).trans h0, (hb.cell (p := ⟨(a.add (i * 2)).block, (a.add (i * 2)).off + 1, none⟩) (show (a.add (i * 2)).block < B from by rw [add_block]; exact ha)).trans h1⟩
set_option maxRecDepth 20000 in
theorem Fld.mono {B B' : Nat} {w : World} {o : Option Addr} {F : List Fd} (h : Fld B w o F) (hB : B ≤ B') : Fld B' w o F := by
  intro i hi
  obtain ⟨a, ho, ha, h0, h1⟩ := h i hi
  exact ⟨a, ho, by omega, h0, h1⟩
set_option maxRecDepth 20000 in
theorem Tryd.info43 : (Tryd.prog.info? 94).map (fun i => (i.zero, i.size, i.bytes)) = some (some (.agg #[.string ⟨#[]⟩, .string ⟨#[]⟩]), 2, 32) := by kernel_rfl
end Go.Proofs.YtillilllceeonaaDoor
namespace Go.Proofs.YtillilllceeonaaDoor
open Go.RowKit Go.Lib Go.Maps
def fdCells (F : List Fd) : List Value := F.flatMap fun f => [.string f.1, .string f.2]
set_option maxRecDepth 20000 in
theorem fdCells_len (F : List Fd) : (fdCells F).length = F.length * 2 := by
  induction F with
  | nil => rfl
  | cons f r ih => simp only [fdCells, List.flatMap_cons, List.length_append, List.length_cons, List.length_nil] at ih ⊢; omega
set_option maxRecDepth 20000 in
theorem fdCells_join (F G : List Fd) : fdCells (F ++ G) = fdCells F ++ fdCells G := by simp [fdCells]
set_option maxRecDepth 20000 in
theorem fdCells_at (F : List Fd) : ∀ (i : Nat) (h : i < F.length), (fdCells F)[i * 2]? = some (.string F[i].1) ∧ (fdCells F)[i * 2 + 1]? = some (.string F[i].2) := by
  induction F with
  | nil => intro i h; exact absurd h (Nat.not_lt_zero _)
  | cons r t ih =>
    intro i h
    have e : fdCells (r :: t) = .string r.1 :: .string r.2 :: fdCells t := rfl
    rw [e]
    cases i with
    | zero => exact ⟨rfl, rfl⟩
    | succ i =>
      have := ih i (by simpa using h)
      rw [show (i + 1) * 2 = i * 2 + 1 + 1 by omega]
      simpa using this
def OwnFd (B : Nat) (v : Value) (F : List Fd) (w : World) : Prop := w.ownsRow B 94 2 v F.length (fdCells F)
set_option maxRecDepth 20000 in
theorem OwnFd.made (B : Nat) (w : World) (hB : B ≤ w.heap.size) : OwnFd B (.slice (some ⟨w.heap.size, 0, none⟩) 0 0) [] (w.alloc (.cells #[] 94)) :=
  ⟨rfl, .inr ⟨w.heap.size, 0, #[], rfl, hB, hp_alloc _ _, Nat.le_refl _, Nat.zero_le _, rfl, rfl⟩⟩
set_option maxRecDepth 20000 in
theorem OwnFd.shape {B : Nat} {v : Value} {F : List Fd} {w : World} (h : OwnFd B v F w) : ∃ o c, v = .slice o F.length c := by
  rcases h.2 with ⟨hv, h0⟩ | ⟨g, cap, cur, hv, _⟩
  · exact ⟨none, 0, by rw [hv, h0]⟩
  · exact ⟨_, _, hv⟩
set_option maxRecDepth 20000 in
theorem OwnFd.gr {B g : Nat} {v : Value} {F : List Fd} {w w' : World} (h : OwnFd B v F w) (hg : w.grownBy w' (some g)) (hB : g < B) : OwnFd B v F w' := row_same h (Same.gr hg hB (Nat.le_refl _))
set_option maxRecDepth 20000 in
theorem OwnFd.below {B : Nat} {v : Value} {F : List Fd} {w w' : World} (h : OwnFd B v F w) (hb : Below w.heap.size w w') : OwnFd B v F w' := row_same h (Same.of_below hb (Nat.le_refl _))
set_option maxRecDepth 20000 in
theorem OwnFd.fld {B : Nat} {o : Option Addr} {cap : Nat} {F : List Fd} {w : World} (h : OwnFd B (.slice o F.length cap) F w) : Fld w.heap.size w o F := by
  intro i hi
  have hl := World.ownsRow.lt h
  rcases h.2 with ⟨h1, h0⟩ | ⟨g, cap', cur, h1, hB, -⟩
  · omega
  · simp only [Value.slice.injEq] at h1
    obtain ⟨rfl, -⟩ := h1
    have d0 := World.ownsRow.cells h (g := g) rfl (i * 2) _ (fdCells_at F i hi).1
    have d1 := World.ownsRow.cells h (g := g) rfl (i * 2 + 1) _ (fdCells_at F i hi).2
    have e : ∀ q, ((⟨g, 0, none⟩ : Addr).add q) = ⟨g, q, none⟩ := fun q => by rw [Addr.add_lit, Nat.zero_add]
    rw [e] at d0 d1
    exact ⟨⟨g, 0, none⟩, rfl, (hl g rfl).2, by rw [e]; exact d0, by rw [e]; exact d1⟩
set_option maxRecDepth 20000 in
theorem Tryd.infoFd : (Tryd.prog.info? 94).map (fun i => (i.zero, i.size, i.bytes)) = some (some (.agg #[.string ⟨#[]⟩, .string ⟨#[]⟩]), 2, 32) := by kernel_rfl
set_option maxRecDepth 20000 in
theorem fd_one (R : List Fd) : ∀ u ∈ fdCells R, u.oneCell' = true := by
  intro u hu
  simp only [fdCells, List.mem_flatMap] at hu
  obtain ⟨m, _, hm⟩ := hu
  simp at hm
  rcases hm with rfl | rfl <;> rfl
set_option maxRecDepth 20000 in
theorem fd_cells {w V : World} {n v : ByteArray} (hV : w.alloc (.cells #[.string n, .string v] 94) = V) : ∀ j u, (fdCells [(n, v)])[j]? = some u → V.cell? ((⟨w.heap.size, 0, none⟩ : Addr).add j) = some u := by
  intro j u hj
  have n2 : V.heap[w.heap.size]? = some (.cells #[.string n, .string v] 94 (0, 0)) := by rw [← hV]; exact hp_alloc _ _
  rw [Addr.add_lit, Nat.zero_add]
  match j, hj with
  | 0, hj => cases hj; simp [World.cell?, n2]
  | 1, hj => cases hj; simp [World.cell?, n2]
set_option maxRecDepth 20000 in
/-- An append of a field. -/
theorem wp_appFd {w : World} {ops : Array Oper} {rest : List Oper} {o : Oper} {a : Act} {Q : Exit → Act → World → Prop} (hgd : o.guard = none) (s x : Operand)
    (ho : o.op = .call { callee := .builtin .append, args := #[s, x], argTypes := #[85, 85] })
    (B : Nat) (v : Value) (C : List Fd) (hs : a.eval s = v) (hown : OwnFd B v C w) (n t : ByteArray)
    (c : Nat) (hx : a.eval x = .slice (some ⟨w.heap.size, 0, none⟩) 1 c) (hlen : C.length ≤ 1000) (hB : B ≤ w.heap.size)
    (h : ∀ v' w', OwnFd B v' (C ++ [(n, t)]) w' → (w.alloc (.cells #[.string n, .string t] 94)).grownBy w' v.ownBlock → wpList Tryd.prog ops Q rest (a.put o.dst v') w') : wpList Tryd.prog ops Q (o :: rest) a (w.alloc (.cells #[.string n, .string t] 94)) := by
  obtain ⟨i0, hi0, hz0, hz1, hz2⟩ := info_parts Tryd.infoFd
  unfold OwnFd at hown
  refine wpList_append_own _ hgd s x 85 ho B 94 i0 _ 2 32 Tryd.underlying85 hi0 hz0 hz1 hz2 rfl (by decide) v C.length (fdCells C) hs (World.ownsRow.alloc hown _) ⟨w.heap.size, 0, none⟩ 1 c (fdCells [(n, t)]) hx
    rfl (fd_cells rfl) (fd_one _) (by unfold maxLen; omega) (by omega) (by simp; omega) ?_
  intro v' w' h1 h2 _
  refine h v' w' ?_ h2
  unfold OwnFd
  rw [fdCells_join, List.length_append]
  exact h1
set_option maxRecDepth 20000 in
theorem opAppFd {w : World} {o : Oper} {a : Act} {K : Act → World → Prop} {Q : Exit → Act → World → Prop} (s x : Operand)
    (ho : o.op = .call { callee := .builtin .append, args := #[s, x], argTypes := #[85, 85] })
    (B : Nat) (v : Value) (C : List Fd) (hs : a.eval s = v) (hown : OwnFd B v C w) (n t : ByteArray) (b c : Nat) (hx : a.eval x = .slice (some ⟨b, 0, none⟩) 1 c) (hb : w.heap[b]? = some (.cells #[.string n, .string t] 94 (0, 0))) (hlen : C.length ≤ 1000) (hB : B ≤ w.heap.size)
    (h : ∀ v' w', OwnFd B v' (C ++ [(n, t)]) w' → w.grownBy w' v.ownBlock → K (a.put o.dst v') w') : o.wp Tryd.prog a w K Q := by
  obtain ⟨i0, hi0, hz0, hz1, hz2⟩ := info_parts Tryd.infoFd
  unfold OwnFd at hown
  obtain ⟨v', w', hr, h2, h3, h4, h5⟩ := run_append_own_at (P := Tryd.prog) w B 85 o.type 94 i0 _ 2 32 Tryd.underlying85 hi0 hz0 hz1 hz2 rfl (by decide) v C.length (fdCells C) hown ⟨b, 0, none⟩ 1 c (fdCells [(n, t)]) rfl (by
    intro j u hj
    rw [Addr.add_lit, Nat.zero_add]
    match j, hj with
    | 0, hj => cases hj; simp [World.cell?, hb]
    | 1, hj => cases hj; simp [World.cell?, hb]) (fd_one _) (by unfold maxLen; omega) (by omega) hB
  unfold Oper.wp execOp
  simp only [ho, resolve, invoke, builtin, Sem.run_bind, Sem.run_pure, Result.andThen_ok, List.map_toArray, List.map_cons, List.map_nil, hs, hx, hr]
  refine h v' w' ?_ h3
  unfold OwnFd
  rw [fdCells_join, List.length_append]
  exact h2
end Go.Proofs.YtillilllceeonaaDoor
namespace Go.Proofs.YtillilllceeonaaDoor
open Go.RowKit Go.Lib
set_option maxRecDepth 10000 in
set_option maxHeartbeats 4000000 in
theorem srcValue (g : Nat) (o : Option Addr) (c : List UInt8) (cp a z : Nat) (w : World) (h : Src w g o c.length cp a z) (hc : Code g w o c) (ha : a ≤ 700000000000) (hl : c.length ≤ 1048576) (hz : z ≤ 12) :
    Calls Tryd.prog 51 #[.pointer (some ⟨g, 0, none⟩)] w fun e w' => ∃ (t : ByteArray) (a' : Nat), e = .returned (.string t) ∧ t.size ≤ 400 ∧ a' ≤ a + 400 ∧ Src w' g o c.length cp a' z ∧ w.grownBy w' (some g) := by
  have hgl := h.lt
  have c2 := h.c2
  have HC : Hid (Code g w o c) := hc
  have hN := srcN g o c cp a z (4 + z) w h hc (by omega) hl (by omega) (by omega)
  clear h hc
  go_enter Tryd.func51, Tryd.ntmps51
  go_wp2_with fail
  refine hN.mono ?_
  rintro e w1 ⟨v, rfl, hv, hs1, hg1⟩
  have Hs1 : Hid (Src w1 g o c.length cp (a + 1) z) := hs1
  have Hg1 : Hid (w.grownBy w1 (some g)) := hg1
  clear hN c2 hs1 hg1
  go_wp2
  go_loopw [3, 4] (fun u i wr => ∃ (k : Nat) (t : ByteArray) (a' : Nat), i = .int .i64 k ∧ u = .string t ∧ t.size + 20 * k ≤ 321 ∧ a' + 20 * k ≤ a + 321 ∧ Hid (Src wr g o c.length cp a' z) ∧ Hid (w.grownBy wr (some g))) (fun _ i _ => (Lib.intOf i).toNat)
  case atStart => exact ⟨v, _, a + 1, rfl, rfl, (by show 1 + 20 * v ≤ 321; omega), by omega, Hs1, Hg1⟩
  case round =>
    clear Hs1 Hg1
    obtain ⟨k, t, a', rfl, rfl, htk, hak, Hs, Hg⟩ := hrel
    by_cases hk : 0 < k
    · have hN := srcN g o c cp a' z 9 wr Hs.out (HC.out.grown Hg.out (Nat.le_refl _)) (by omega) hl (by omega) (by omega)
      go_wp2_with fail
      refine hN.mono ?_
      rintro e w2 ⟨v2, rfl, hv2, hs2, hg2⟩
      have Hs2 : Hid (Src w2 g o c.length cp (a' + 1) z) := hs2
      have Hg2 : Hid (w.grownBy w2 (some g)) := gr_trans Hg.out hg2
      have hW := srcWord g o c cp (a' + 1) z w2 hs2 (HC.out.grown Hg2.out (Nat.le_refl _)) (by omega) hl
      clear hN hs2 hg2 Hs Hg
      by_cases h0 : v2 = 0
      · have e0 : ((v2 : Int) == 0) = true := by rw [h0]; rfl
        clear h0
        go_wp2
        go_roundw
        case rel => exact ⟨k - 1, _, a' + 1, by go_num, rfl, (by rw [ByteArray.size_append]; show t.size + 3 + _ ≤ _; omega), by omega, Hs2, Hg2⟩
        case measure => simp [Lib.intOf]; omega
      have e0 : ((v2 : Int) == 0) = false := beq_eq_false_iff_ne.2 (by omega)
      by_cases h1 : v2 = 1
      · have e1 : ((v2 : Int) == 1) = true := by rw [h1]; rfl
        clear h0 h1
        go_wp2_with fail
        refine hW.mono ?_
        rintro e w3 ⟨t3, a3, rfl, ht3, ha3, hs3, hg3⟩
        have Hs3 : Hid (Src w3 g o c.length cp a3 z) := hs3
        have Hg3 : Hid (w.grownBy w3 (some g)) := gr_trans Hg2.out hg3
        clear hs3 hg3 hW
        go_wp2
        go_roundw
        case rel => exact ⟨k - 1, _, a3, by go_num, rfl, (by simp only [ByteArray.size_append]; show t.size + 3 + t3.size + _ ≤ _; omega), by omega, Hs3, Hg3⟩
        case measure => simp [Lib.intOf]; omega
      have e1 : ((v2 : Int) == 1) = false := beq_eq_false_iff_ne.2 (by omega)
      by_cases h2 : v2 = 2
      · have e2 : ((v2 : Int) == 2) = true := by rw [h2]; rfl
        clear h0 h1 h2
        go_wp2_with fail
        refine hW.mono ?_
        rintro e w3 ⟨t3, a3, rfl, ht3, ha3, hs3, hg3⟩
        have Hs3 : Hid (Src w3 g o c.length cp a3 z) := hs3
        have Hg3 : Hid (w.grownBy w3 (some g)) := gr_trans Hg2.out hg3
        clear hs3 hg3 hW
        go_wp2
        go_roundw
        case rel => exact ⟨k - 1, _, a3, by go_num, rfl, (by simp only [ByteArray.size_append]; show t.size + 6 + t3.size + 1 + _ ≤ _; omega), by omega, Hs3, Hg3⟩
        case measure => simp [Lib.intOf]; omega
      have e2 : ((v2 : Int) == 2) = false := beq_eq_false_iff_ne.2 (by omega)
      by_cases h3 : v2 = 3
      · have e3 : ((v2 : Int) == 3) = true := by rw [h3]; rfl
        clear h0 h1 h2 h3
        go_wp2_with fail
        refine hW.mono ?_
        rintro e w3 ⟨t3, a3, rfl, ht3, ha3, hs3, hg3⟩
        have Hs3 : Hid (Src w3 g o c.length cp a3 z) := hs3
        have Hg3 : Hid (w.grownBy w3 (some g)) := gr_trans Hg2.out hg3
        clear hs3 hg3 hW
        go_wp2
        go_roundw
        case rel => exact ⟨k - 1, _, a3, by go_num, rfl, (by simp only [ByteArray.size_append]; show t.size + 4 + t3.size + 6 + _ ≤ _; omega), by omega, Hs3, Hg3⟩
        case measure => simp [Lib.intOf]; omega
      have e3 : ((v2 : Int) == 3) = false := beq_eq_false_iff_ne.2 (by omega)
      by_cases h4 : v2 = 4
      · have e4 : ((v2 : Int) == 4) = true := by rw [h4]; rfl
        clear h0 h1 h2 h3 h4 hW
        have hbA : ∀ cs, Below w2.heap.size w2 (w2.alloc (.cells cs 9)) := fun cs => (Below.refl _ _).alloc (Nat.le_refl _) _
        have hg2l := Hg2.out.size
        have hN3 := fun cs => srcN g o c cp (a' + 1) z 11 (w2.alloc (.cells cs 9)) (Hs2.out.below (hbA cs)) (HC.out.grown (gr_trans Hg2.out (gr_below (hbA cs))) (Nat.le_refl _)) (by omega) hl (by omega) (by omega)
        have HN3 := (show Hid _ from hN3)
        clear hN3
        go_wp2_with fail
        refine (HN3.out _).mono ?_
        rintro e w3 ⟨v3, rfl, hv3, hs3, hg3⟩
        obtain ⟨t3, ht3, hts⟩ := table_at (M := 12) hg3 (by omega) (show v3 < 11 by omega) (by decide)
        have Hs3 : Hid (Src w3 g o c.length cp (a' + 1 + 1) z) := hs3
        have Hg3 : Hid (w.grownBy w3 (some g)) := gr_trans Hg2.out (gr_trans (gr_below (hbA _)) hg3)
        clear HN3 hg3 hs3 hbA Hs2 Hg2
        have hv4 : v3 < 11 := by omega
        go_wp2
        go_roundw
        case rel => exact ⟨k - 1, _, a' + 1 + 1, by go_num, rfl, (by simp only [ByteArray.size_append]; omega), by omega, Hs3, Hg3⟩
        case measure => simp [Lib.intOf]; omega
      have e4 : ((v2 : Int) == 4) = false := beq_eq_false_iff_ne.2 (by omega)
      clear h0 h1 h2 h3 h4
      go_wp2_with fail
      refine hW.mono ?_
      rintro e w4 ⟨t4, a4, rfl, ht4, ha4, hs4, hg4⟩
      have Hs4 : Hid (Src w4 g o c.length cp a4 z) := hs4
      have Hg4 : Hid (w.grownBy w4 (some g)) := gr_trans Hg2.out hg4
      clear hs4 hg4 hW Hs2 Hg2
      have hbA : ∀ cs, Below w4.heap.size w4 (w4.alloc (.cells cs 9)) := fun cs => (Below.refl _ _).alloc (Nat.le_refl _) _
      have hg4l := Hg4.out.size
      have hN3 := fun cs => srcN g o c cp a4 z 4 (w4.alloc (.cells cs 9)) (Hs4.out.below (hbA cs)) (HC.out.grown (gr_trans Hg4.out (gr_below (hbA cs))) (Nat.le_refl _)) (by omega) hl (by omega) (by omega)
      have HN3 := (show Hid _ from hN3)
      clear hN3
      go_wp2_with fail
      refine (HN3.out _).mono ?_
      rintro e w3 ⟨v3, rfl, hv3, hs3, hg3⟩
      obtain ⟨t3, ht3, hts⟩ := table_at (M := 3) hg3 (by omega) (show v3 < 4 by omega) (by decide)
      have Hs3 : Hid (Src w3 g o c.length cp (a4 + 1) z) := hs3
      have Hg3 : Hid (w.grownBy w3 (some g)) := gr_trans Hg4.out (gr_trans (gr_below (hbA _)) hg3)
      clear HN3 hg3 hs3 hbA Hs4 Hg4
      have hv4 : v3 < 4 := by omega
      go_wp2
      go_roundw
      case rel => exact ⟨k - 1, _, a4 + 1, by go_num, rfl, (by simp only [ByteArray.size_append]; omega), by omega, Hs3, Hg3⟩
      case measure => simp [Lib.intOf]; omega
    · go_wp2
      go_ret
      exact ⟨t, a', rfl, by omega, by omega, Hs.out, Hg.out⟩
end Go.Proofs.YtillilllceeonaaDoor
namespace Go.Proofs.YtillilllceeonaaDoor
namespace Pl
/-- The day on which a year begins. -/
def beg (y : Int) : Int := (y - 1) * 365 + (y - 1) / 4 - (y - 1) / 100 + (y - 1) / 400 - 719162
def leap (y : Int) : Bool := ((y % 4 == 0) && (y % 100 != 0)) || (y % 400 == 0)
set_option maxRecDepth 20000 in
theorem beg_next (y : Int) : beg (y + 1) = beg y + (if leap y then 366 else 365) := by
  unfold beg
  cases h : leap y
  · simp only [leap, Bool.or_eq_false_iff, Bool.and_eq_false_iff, beq_eq_false_iff_ne, bne_eq_false_iff_eq, ne_eq] at h
    simp only [Bool.false_eq_true, if_false]
    omega
  · simp only [leap, Bool.or_eq_true, Bool.and_eq_true, beq_iff_eq, bne_iff_ne, ne_eq] at h
    simp only [if_true]
    omega
set_option maxRecDepth 20000 in
theorem beg_low (y : Int) (h : 1970 ≤ y) : 365 * (y - 1970) ≤ beg y := by unfold beg; omega
set_option maxRecDepth 20000 in
theorem beg_high (y : Int) (h : 1970 ≤ y) : beg y ≤ 366 * (y - 1970) := by unfold beg; omega
set_option maxRecDepth 20000 in
theorem beg_end (y : Int) (h : 10000 ≤ y) : 2932897 ≤ beg y := by unfold beg; omega
/-- The year of a day: looked for from a year on. -/
def yrF (d : Int) : Nat → Int → Int
  | 0, y => y
  | k + 1, y => if beg (y + 1) ≤ d then yrF d k (y + 1) else y
def fuel (d y : Int) : Nat := (d + 719052 - 365 * y).toNat
def yr (d : Int) : Int := yrF d (fuel d (1970 + d / 366)) (1970 + d / 366)
set_option maxRecDepth 20000 in
theorem yrF_go (d y : Int) (h1 : 1970 ≤ y) (h : beg (y + 1) ≤ d) : yrF d (fuel d y) y = yrF d (fuel d (y + 1)) (y + 1) := by
  have hl := beg_low (y + 1) (by omega)
  obtain ⟨k, hk⟩ : ∃ k, fuel d y = k + 1 := ⟨fuel d y - 1, by unfold fuel; omega⟩
  rw [hk, yrF, if_pos h]
  -- more fuel than needed changes nothing
  have more : ∀ (a b : Nat) (y : Int), 1970 ≤ y → d - 365 * (y - 1970) < 365 * (a : Int) + 365 → d - 365 * (y - 1970) < 365 * (b : Int) + 365 → yrF d a y = yrF d b y := by
    intro a
    induction a with
    | zero =>
      intro b y hy ha hb
      have hn : ¬ beg (y + 1) ≤ d := by have := beg_low (y + 1) (by omega); omega
      cases b with
      | zero => rfl
      | succ b => rw [yrF, yrF, if_neg hn]
    | succ a ih =>
      intro b y hy ha hb
      cases b with
      | zero =>
        have hn : ¬ beg (y + 1) ≤ d := by have := beg_low (y + 1) (by omega); omega
        rw [yrF, yrF, if_neg hn]
      | succ b =>
        rw [yrF, yrF]
        split
        · exact ih b (y + 1) (by omega) (by omega) (by omega)
        · rfl
  refine more k (fuel d (y + 1)) (y + 1) (by omega) ?_ ?_
  · have : (fuel d y : Int) = d + 719052 - 365 * y := by unfold fuel; omega
    omega
  · unfold fuel; omega
set_option maxRecDepth 20000 in
theorem yrF_stop (d y : Int) (n : Nat) (h : ¬ beg (y + 1) ≤ d) : yrF d n y = y := by
  cases n with
  | zero => rfl
  | succ n => rw [yrF, if_neg h]
set_option maxRecDepth 20000 in
theorem beg_first (d : Int) (h0 : 0 ≤ d) : beg (1970 + d / 366) ≤ d := by
  have := beg_high (1970 + d / 366) (by omega)
  omega
/-- Days of a month, from 1 on. -/
def dm (y m : Int) : Int := if m = 4 ∨ m = 6 ∨ m = 9 ∨ m = 11 then 30 else if m = 2 then (if leap y then 29 else 28) else 31
set_option maxRecDepth 20000 in
theorem dm_pos (y m : Int) : 28 ≤ dm y m ∧ dm y m ≤ 31 := by unfold dm; split <;> (try split) <;> (try split) <;> omega
/-- Days of a month and of those behind it. -/
def tail (y m : Int) : Int := (if m ≤ 1 then 31 else 0) + (if m ≤ 2 then (if leap y then 29 else 28) else 0) + (if m ≤ 3 then 31 else 0) + (if m ≤ 4 then 30 else 0) + (if m ≤ 5 then 31 else 0) + (if m ≤ 6 then 30 else 0) + (if m ≤ 7 then 31 else 0) + (if m ≤ 8 then 31 else 0) + (if m ≤ 9 then 30 else 0) + (if m ≤ 10 then 31 else 0) + (if m ≤ 11 then 30 else 0) + (if m ≤ 12 then 31 else 0)
set_option maxRecDepth 20000 in
theorem cases12 (m : Int) (h1 : 1 ≤ m) (h2 : m ≤ 12) : m = 1 ∨ m = 2 ∨ m = 3 ∨ m = 4 ∨ m = 5 ∨ m = 6 ∨ m = 7 ∨ m = 8 ∨ m = 9 ∨ m = 10 ∨ m = 11 ∨ m = 12 := by omega
set_option maxRecDepth 20000 in
theorem tail_step (y m : Int) (h1 : 1 ≤ m) (h2 : m ≤ 12) : tail y m = dm y m + tail y (m + 1) := by
  rcases cases12 m h1 h2 with rfl | rfl | rfl | rfl | rfl | rfl | rfl | rfl | rfl | rfl | rfl | rfl <;> cases h : leap y <;> simp [tail, dm, h]
set_option maxRecDepth 20000 in
theorem tail_one (y : Int) : tail y 1 = if leap y then 366 else 365 := by
  cases h : leap y <;> simp [tail, h]
set_option maxRecDepth 20000 in
theorem tail_end (y : Int) : tail y 13 = 0 := by simp [tail]
/-- The month and what is left of the days. -/
def moF (y : Int) : Nat → Int → Int → Int × Int
  | 0, d, m => (m, d)
  | k + 1, d, m => if dm y m ≤ d then moF y k (d - dm y m) (m + 1) else (m, d)
def mo (d : Int) : Int × Int := moF (yr d) 12 (d - beg (yr d)) 1
set_option maxRecDepth 20000 in
theorem moF_go (y d m : Int) (k : Nat) (hk : (k : Int) = 13 - m) (h1 : 1 ≤ m) (h2 : m ≤ 12) (h : dm y m ≤ d) : moF y k d m = moF y (k - 1) (d - dm y m) (m + 1) := by
  obtain ⟨j, rfl⟩ : ∃ j, k = j + 1 := ⟨k - 1, by omega⟩
  rw [moF, if_pos h]
  rfl
set_option maxRecDepth 20000 in
theorem moF_stop (y d m : Int) (k : Nat) (h : ¬ dm y m ≤ d) : moF y k d m = (m, d) := by
  cases k with
  | zero => rfl
  | succ k => rw [moF, if_neg h]
end Pl
end Go.Proofs.YtillilllceeonaaDoor
namespace Go.Proofs.YtillilllceeonaaDoor
open Go.RowKit Go.Lib
set_option maxRecDepth 20000 in
set_option maxHeartbeats 400000 in
theorem specLeap (y : Int) (w : World) (h0 : 1900 ≤ y) (h1 : y ≤ 20000) : Calls Tryd.prog 79 #[.int .i64 y] w fun e w' => e = .returned (.bool (Pl.leap y)) ∧ w = w' := by
  unfold Pl.leap
  cases h4 : (y % 4 == 0) <;> cases h100 : (y % 100 == 0)
  all_goals
    have hn : (y % 100 != 0) = !(y % 100 == 0) := rfl
    rw [h100] at hn
    rw [hn]
    simp only [Bool.not_true, Bool.not_false] at hn
    go_enter Tryd.func79, Tryd.ntmps79
    go_wp2
    go_ret
    exact ⟨rfl, rfl⟩
set_option maxRecDepth 20000 in
set_option maxHeartbeats 1000000 in
theorem specDays (y m : Int) (w : World) (h0 : 1900 ≤ y) (h1 : y ≤ 20000) (hm0 : 1 ≤ m) (hm1 : m ≤ 12) : Calls Tryd.prog 77 #[.int .i64 y, .int .i64 m] w fun e w' => e = .returned (.int .i64 (Pl.dm y m)) ∧ w = w' := by
  have hL := fun w => specLeap y w h0 h1
  unfold Pl.dm
  generalize Pl.leap y = b at *
  have hc := Pl.cases12 m hm0 hm1
  clear hm0 hm1
  rcases hc with rfl | rfl | rfl | rfl | rfl | rfl | rfl | rfl | rfl | rfl | rfl | rfl <;> cases b
  all_goals
    go_enter Tryd.func77, Tryd.ntmps77
    go_wp2_with (go_at_call 79; go_must (refine (hL _).mono ?_; rintro e w2 ⟨rfl, rfl⟩))
    go_ret
    exact ⟨rfl, rfl⟩
set_option maxRecDepth 20000 in
set_option maxHeartbeats 1000000 in
theorem specBegin (y : Int) (w : World) (h0 : 1970 ≤ y) (h1 : y ≤ 20000) : Calls Tryd.prog 76 #[.int .i64 y] w fun e w' => e = .returned (.int .i64 (Pl.beg y)) ∧ w = w' := by
  unfold Pl.beg
  go_enter Tryd.func76, Tryd.ntmps76
  go_wp2
  go_ret
  exact ⟨rfl, rfl⟩
end Go.Proofs.YtillilllceeonaaDoor
namespace Go.Proofs.YtillilllceeonaaDoor
open Go.RowKit Go.Lib
/-- A year under way. -/
structure YearAt (d y : Int) : Prop where
  low : 1970 ≤ y
  beg : Pl.beg y ≤ d
  goal : Pl.yrF d (Pl.fuel d y) y = Pl.yr d
set_option maxRecDepth 20000 in
theorem YearAt.start (d : Int) (h0 : 0 ≤ d) : YearAt d (1970 + d / 366) := ⟨by omega, Pl.beg_first d h0, rfl⟩
set_option maxRecDepth 20000 in
theorem YearAt.next {d y : Int} (h : YearAt d y) (hb : Pl.beg (y + 1) ≤ d) : YearAt d (y + 1) := ⟨by have := h.low; omega, hb, by rw [← Pl.yrF_go d y h.low hb]; exact h.goal⟩
set_option maxRecDepth 20000 in
theorem YearAt.done {d y : Int} (h : YearAt d y) (hb : ¬ Pl.beg (y + 1) ≤ d) : Pl.yr d = y := by rw [← h.goal]; exact Pl.yrF_stop d y _ hb
set_option maxRecDepth 20000 in
theorem YearAt.high {d y : Int} (h : YearAt d y) (hd : d ≤ 2932896) : y ≤ 10005 := by
  have := Pl.beg_low y h.low
  have := h.beg
  omega
/-- A month under way. -/
structure MonthAt (d r m : Int) : Prop where
  one : 1 ≤ m
  twelve : m ≤ 12
  pos : 0 ≤ r
  lt : r < Pl.tail (Pl.yr d) m
  goal : Pl.moF (Pl.yr d) (13 - m).toNat r m = Pl.mo d
set_option maxRecDepth 20000 in
theorem MonthAt.start {d y : Int} (h : YearAt d y) (hb : ¬ Pl.beg (y + 1) ≤ d) : MonthAt d (d - Pl.beg y) 1 := by
  have e := h.done hb
  have hn := Pl.beg_next y
  have := h.beg
  refine ⟨by omega, by omega, by omega, ?_, ?_⟩
  · rw [e, Pl.tail_one]; omega
  · rw [Pl.mo, e]; rfl
set_option maxRecDepth 20000 in
theorem MonthAt.next {d r m : Int} (h : MonthAt d r m) (hr : Pl.dm (Pl.yr d) m ≤ r) : MonthAt d (r - Pl.dm (Pl.yr d) m) (m + 1) := by
  have hs := Pl.tail_step (Pl.yr d) m h.one h.twelve
  have hl := h.lt
  have h1 := h.one
  have hm : m ≠ 12 := by
    intro e
    have h2 := Pl.tail_end (Pl.yr d)
    rw [e, show ((12 : Int) + 1) = 13 from rfl, h2] at hs
    rw [e] at hl hr
    omega
  have h12 := h.twelve
  refine ⟨by omega, by omega, by omega, by omega, ?_⟩
  rw [show (13 - (m + 1)).toNat = (13 - m).toNat - 1 by omega, ← Pl.moF_go _ r m _ (by omega) h.one h.twelve hr]
  exact h.goal
set_option maxRecDepth 20000 in
theorem MonthAt.done {d r m : Int} (h : MonthAt d r m) (hr : ¬ Pl.dm (Pl.yr d) m ≤ r) : Pl.mo d = (m, r) := by rw [← h.goal]; exact Pl.moF_stop _ r m _ hr
set_option maxRecDepth 20000 in
theorem MonthAt.high {d r m : Int} (h : MonthAt d r m) : r < 400 := by
  have hl := h.lt
  have h1 := h.one
  have h2 := h.twelve
  unfold Pl.tail at hl
  rcases Pl.cases12 m h1 h2 with rfl | rfl | rfl | rfl | rfl | rfl | rfl | rfl | rfl | rfl | rfl | rfl <;> cases hp : Pl.leap (Pl.yr d) <;> simp [hp] at hl <;> omega
set_option maxRecDepth 20000 in
set_option maxHeartbeats 2000000 in
theorem specParts (t d : Int) (w : World) (ht0 : 0 ≤ t) (ht1 : t ≤ 253402300799) (hd : t / 86400 = d) (h0 : 0 ≤ d) (h1 : d ≤ 2932896) : Calls Tryd.prog 64 #[.int .i64 t] w fun e w' => e = .returned (.tuple #[.int .i64 (Pl.yr d), .int .i64 (Pl.mo d).1, .int .i64 ((Pl.mo d).2 + 1)]) ∧ w = w' := by
  have HY := (show Hid _ from YearAt.start d h0)
  go_enter Tryd.func64, Tryd.ntmps64
  go_wp2
  simp only [hd]
  clear hd ht0 ht1
  go_loopw [6] (fun v wr => ∃ y : Int, v = .int .i64 y ∧ Hid (YearAt d y) ∧ wr = w) (fun v _ => (20000 - Lib.intOf v).toNat)
  case atStart => exact ⟨_, rfl, HY, rfl⟩
  case round =>
    clear HY
    obtain ⟨y, rfl, HY, rfl⟩ := hrel
    have hy0 := HY.out.low
    have hy1 := HY.out.high h1
    have hB := fun w => specBegin (y + 1) w (by omega) (by omega)
    by_cases hb : Pl.beg (y + 1) ≤ d
    · have HN := (show Hid _ from HY.out.next hb)
      clear HY
      generalize Pl.beg (y + 1) = b at *
      go_wp2_with (go_at_call 76; go_must (refine (hB _).mono ?_; rintro e w2 ⟨rfl, rfl⟩))
      go_roundw
      case rel => exact ⟨y + 1, rfl, HN, trivial⟩
      case measure => simp [Lib.intOf]; omega
    · have HD := (show Hid (Pl.yr d = y) from HY.out.done hb)
      have HM := (show Hid _ from MonthAt.start HY.out hb)
      have hC := fun w => specBegin y w (by omega) (by omega)
      have hbl := HY.out.beg
      have hbp : 0 ≤ Pl.beg y := by have := Pl.beg_low y hy0; omega
      have hb' : d < Pl.beg (y + 1) := by omega
      clear HY hb
      generalize Pl.beg (y + 1) = b at *
      generalize Pl.beg y = c at *
      go_wp2_with fail
      refine (hB _).mono ?_
      rintro e w2 ⟨rfl, rfl⟩
      go_wp2_with fail
      refine (hC _).mono ?_
      rintro e w2 ⟨rfl, rfl⟩
      clear hB hC
      go_wp2
      go_loopw [5, 7] (fun v u w9 => ∃ r m : Int, v = .int .i64 r ∧ u = .int .i64 m ∧ Hid (MonthAt d r m) ∧ w9 = wr) (fun _ u _ => (20 - Lib.intOf u).toNat)
      case atStart => exact ⟨_, 1, rfl, rfl, HM, rfl⟩
      case round =>
        clear HM
        obtain ⟨r, m, rfl, rfl, HM, rfl⟩ := hrel
        have hm1 := HM.out.one
        have hm2 := HM.out.twelve
        have hr0 := HM.out.pos
        have hr1 := HM.out.high
        have hD := fun w => specDays y m w (by omega) (by omega) hm1 hm2
        obtain ⟨hd0, hd1⟩ := Pl.dm_pos y m
        by_cases hr : Pl.dm y m ≤ r
        · have HN : Hid (MonthAt d (r - Pl.dm y m) (m + 1)) := show MonthAt _ _ _ from by
            have := HM.out.next (by rw [HD.out]; exact hr)
            rw [HD.out] at this
            exact this
          clear HM
          generalize Pl.dm y m = k at *
          go_wp2_with (go_at_call 77; go_must (refine (hD _).mono ?_; rintro e w3 ⟨rfl, rfl⟩))
          go_roundw
          case rel => exact ⟨r - k, m + 1, rfl, rfl, HN, trivial⟩
          case measure => simp [Lib.intOf]; omega
        · have HE : Hid (Pl.mo d = (m, r)) := HM.out.done (by rw [HD.out]; exact hr)
          have hr' : r < Pl.dm y m := by omega
          clear HM hr
          generalize Pl.dm y m = k at *
          go_wp2_with (go_at_call 77; go_must (refine (hD _).mono ?_; rintro e w3 ⟨rfl, rfl⟩))
          refine bodyPost_ret (v := .tuple #[.int .i64 y, .int .i64 m, .int .i64 (r + 1)]) (by simp [results, Tryd.results64, go_sem]) rfl ?_
          rw [HD.out, HE.out]
          exact ⟨rfl, rfl⟩
end Go.Proofs.YtillilllceeonaaDoor
namespace Go.Proofs.YtillilllceeonaaDoor
open Go.RowKit Go.Lib
namespace Pl
def twoN (n : Nat) : List UInt8 := [UInt8.ofNat (48 + n / 10), UInt8.ofNat (48 + n % 10)]
def two (n : Int) : ByteArray := ⟨(twoN n.toNat).toArray⟩
set_option maxRecDepth 20000 in
theorem two_size (n : Int) : (two n).size = 2 := rfl
set_option maxRecDepth 20000 in
theorem dec_one (n : Nat) (h : n < 10) : decDigits n = [UInt8.ofNat (48 + n)] := by rw [decDigits, dif_pos h]
set_option maxRecDepth 20000 in
theorem dec_two (n : Nat) (h0 : ¬ n < 10) (h : n < 100) : decDigits n = twoN n := by rw [decDigits, dif_neg h0, dec_one _ (by omega)]; rfl
set_option maxRecDepth 20000 in
theorem dec_four (n : Nat) (h0 : 1000 ≤ n) (h : n < 10000) : decDigits n = twoN (n / 100) ++ twoN (n % 100) := by
  rw [decDigits, dif_neg (by omega), decDigits, dif_neg (by omega), dec_two _ (by omega) (by omega)]
  have e1 : n / 10 / 10 = n / 100 := by omega
  have e2 : n / 10 % 10 = n % 100 / 10 := by omega
  have e3 : n % 10 = n % 100 % 10 := by omega
  rw [e1, e2, e3]
  rfl
set_option maxRecDepth 20000 in
theorem ba_append (a b : List UInt8) : (ByteArray.mk a.toArray) ++ (ByteArray.mk b.toArray) = ByteArray.mk (a ++ b).toArray := by
  apply ByteArray.ext
  simp
set_option maxRecDepth 20000 in
theorem two_small (n : Nat) (h : n < 10) : (ByteArray.mk #[48]) ++ (ByteArray.mk (decDigits n).toArray) = two (n : Int) := by
  have : (ByteArray.mk #[48]) = ByteArray.mk ([48] : List UInt8).toArray := rfl
  rw [this, ba_append, dec_one n h, two, twoN]
  have e1 : (n : Int).toNat / 10 = 0 := by omega
  have e2 : (n : Int).toNat % 10 = n := by omega
  rw [e1, e2]
  rfl
set_option maxRecDepth 20000 in
theorem two_big (n : Nat) (h0 : ¬ n < 10) (h : n < 100) : (ByteArray.mk #[]) ++ (ByteArray.mk (decDigits n).toArray) = two (n : Int) := by
  have : (ByteArray.mk #[]) = ByteArray.mk ([] : List UInt8).toArray := rfl
  rw [this, ba_append, dec_two n h0 h, two]
  rfl
set_option maxRecDepth 20000 in
theorem four (n : Nat) (h0 : 1000 ≤ n) (h : n < 10000) : (ByteArray.mk #[]) ++ (ByteArray.mk (itoa (n : Int)).toArray) = two ((n : Int) / 100) ++ two ((n : Int) % 100) := by
  have : (ByteArray.mk #[]) = ByteArray.mk ([] : List UInt8).toArray := rfl
  rw [this, ba_append, itoa, if_neg (by omega), Int.toNat_natCast, dec_four n h0 h, two, two, ba_append, List.nil_append]
  have e1 : ((n : Int) / 100).toNat = n / 100 := by omega
  have e2 : ((n : Int) % 100).toNat = n % 100 := by omega
  rw [e1, e2]
end Pl
set_option maxRecDepth 20000 in
set_option maxHeartbeats 400000 in
theorem specTwo (n : Int) (w : World) (h0 : 0 ≤ n) (h1 : n < 100) : Calls Tryd.prog 65 #[.int .i64 n] w fun e w' => e = .returned (.string (Pl.two n)) ∧ Below w.heap.size w w' := by
  have ha : ((UInt8.ofNat (48 + n.toNat / 10)).toNat : Int) = 48 + n / 10 := by
    rw [UInt8.toNat_ofNat_of_lt' (by simp [UInt8.size]; omega)]; omega
  have hb : ((UInt8.ofNat (48 + n.toNat % 10)).toNat : Int) = 48 + n % 10 := by
    rw [UInt8.toNat_ofNat_of_lt' (by simp [UInt8.size]; omega)]; omega
  have hcv : (convert 22 9 (.slice (some ⟨w.heap.size, 0, none⟩) 2 2)).run Tryd.prog (w.alloc (.cells #[.int .u8 (48 + n / 10), .int .u8 (48 + n % 10)] 5)) = .ok (.string (Pl.two n)) (w.alloc (.cells #[.int .u8 (48 + n / 10), .int .u8 (48 + n % 10)] 5)) := by
    rw [← ha, ← hb]
    refine run_convert_bytes_back (P := Tryd.prog) _ 22 9 5 ⟨w.heap.size, 0, none⟩ 2 (Pl.twoN n.toNat) Tryd.underlying22 Tryd.underlying5 Tryd.underlying9 ?_
    intro j hj
    match j, hj with
    | 0, hj => simp [Addr.add, Pl.twoN]
    | 1, hj => simp [Addr.add, Pl.twoN]
  have hbA : Below w.heap.size w (w.alloc (.cells #[.int .u8 (48 + n / 10), .int .u8 (48 + n % 10)] 5)) := (Below.refl _ _).alloc (Nat.le_refl _) _
  clear ha hb
  go_enter Tryd.func65, Tryd.ntmps65
  go_wp2
  go_ret
  exact ⟨rfl, hbA⟩
end Go.Proofs.YtillilllceeonaaDoor
namespace Go.Proofs.YtillilllceeonaaDoor
open Go.RowKit Go.Lib
def clockT (t : Int) : ByteArray := Pl.two (t % 86400 / 3600) ++ ⟨#[58]⟩ ++ Pl.two (t % 3600 / 60) ++ ⟨#[58]⟩ ++ Pl.two (t % 60)
def signT (z : Int) : ByteArray := if z < 0 then ⟨#[45]⟩ else ⟨#[43]⟩
def absI (z : Int) : Int := if z < 0 then -z else z
def zoneT (z : Int) : ByteArray := signT z ++ Pl.two (absI z / 60) ++ Pl.two (absI z % 60)
set_option maxRecDepth 20000 in
theorem clock_size (t : Int) : (clockT t).size = 8 := by simp [clockT, ByteArray.size_append, Pl.two_size]; rfl
set_option maxRecDepth 20000 in
theorem zone_size (t : Int) : (zoneT t).size = 5 := by simp only [zoneT, ByteArray.size_append, Pl.two_size, signT]; split <;> rfl
set_option maxRecDepth 20000 in
set_option maxHeartbeats 1000000 in
theorem specClock (t : Int) (w : World) (h0 : 0 ≤ t) (h1 : t ≤ 253402300799) : Calls Tryd.prog 68 #[.int .i64 t] w fun e w' => e = .returned (.string (clockT t)) ∧ Below w.heap.size w w' := by
  have a1 := fun w => specTwo (t % 86400 / 3600) w (by omega) (by omega)
  have a2 := fun w => specTwo (t % 3600 / 60) w (by omega) (by omega)
  have a3 := fun w => specTwo (t % 60) w (by omega) (by omega)
  have z1 := Pl.two_size (t % 86400 / 3600)
  have z2 := Pl.two_size (t % 3600 / 60)
  have z3 := Pl.two_size (t % 60)
  unfold clockT
  generalize Pl.two (t % 86400 / 3600) = x1 at *
  generalize Pl.two (t % 3600 / 60) = x2 at *
  generalize Pl.two (t % 60) = x3 at *
  go_enter Tryd.func68, Tryd.ntmps68
  go_wp2_with fail
  refine (a1 _).mono ?_
  rintro e w2 ⟨rfl, b1⟩
  go_wp2_with fail
  refine (a2 _).mono ?_
  rintro e w3 ⟨rfl, b2⟩
  go_wp2_with fail
  refine (a3 _).mono ?_
  rintro e w4 ⟨rfl, b3⟩
  go_wp2
  go_ret
  exact ⟨rfl, b1.trans ((b2.trans (b3.mono b2.size)).mono b1.size)⟩
set_option maxRecDepth 20000 in
set_option maxHeartbeats 1000000 in
theorem specZone (z : Int) (w : World) (h0 : -1439 ≤ z) (h1 : z ≤ 1439) : Calls Tryd.prog 69 #[.int .i64 z] w fun e w' => e = .returned (.string (zoneT z)) ∧ Below w.heap.size w w' := by
  unfold zoneT signT absI
  rcases Int.lt_or_le z 0 with h | h
  · rw [if_pos h, if_pos h]
    obtain ⟨k, rfl⟩ : ∃ k : Int, z = -k := ⟨-z, by omega⟩
    rw [Int.neg_neg]
    have hk0 : 0 < k := by omega
    have hk1 : k ≤ 1439 := by omega
    have a1 := fun w => specTwo (k / 60) w (by omega) (by omega)
    have a2 := fun w => specTwo (k % 60) w (by omega) (by omega)
    have z1 := Pl.two_size (k / 60)
    have z2 := Pl.two_size (k % 60)
    generalize Pl.two (k / 60) = x1 at *
    generalize Pl.two (k % 60) = x2 at *
    go_enter Tryd.func69, Tryd.ntmps69
    go_wp2_with fail
    refine (a1 _).mono ?_
    rintro e w2 ⟨rfl, b1⟩
    go_wp2_with fail
    refine (a2 _).mono ?_
    rintro e w3 ⟨rfl, b2⟩
    go_wp2
    go_ret
    exact ⟨rfl, b1.trans (b2.mono b1.size)⟩
  · rw [if_neg (by omega), if_neg (by omega)]
    have a1 := fun w => specTwo (z / 60) w (by omega) (by omega)
    have a2 := fun w => specTwo (z % 60) w (by omega) (by omega)
    have z1 := Pl.two_size (z / 60)
    have z2 := Pl.two_size (z % 60)
    generalize Pl.two (z / 60) = x1 at *
    generalize Pl.two (z % 60) = x2 at *
    go_enter Tryd.func69, Tryd.ntmps69
    go_wp2_with fail
    refine (a1 _).mono ?_
    rintro e w2 ⟨rfl, b1⟩
    go_wp2_with fail
    refine (a2 _).mono ?_
    rintro e w3 ⟨rfl, b2⟩
    go_wp2
    go_ret
    exact ⟨rfl, b1.trans (b2.mono b1.size)⟩
set_option maxRecDepth 20000 in
set_option maxHeartbeats 1000000 in
theorem specYear (y : Int) (w : World) (h0 : 0 ≤ y) (h1 : y ≤ 9999) : Calls Tryd.prog 67 #[.int .i64 y] w fun e w' => e = .returned (.string (Pl.two (y / 100) ++ Pl.two (y % 100))) ∧ Below w.heap.size w w' := by
  have a1 := fun w => specTwo (y / 100) w (by omega) (by omega)
  have a2 := fun w => specTwo (y % 100) w (by omega) (by omega)
  have z1 := Pl.two_size (y / 100)
  have z2 := Pl.two_size (y % 100)
  generalize Pl.two (y / 100) = x1 at *
  generalize Pl.two (y % 100) = x2 at *
  go_enter Tryd.func67, Tryd.ntmps67
  go_wp2_with fail
  refine (a1 _).mono ?_
  rintro e w2 ⟨rfl, b1⟩
  go_wp2_with fail
  refine (a2 _).mono ?_
  rintro e w3 ⟨rfl, b2⟩
  go_wp2
  go_ret
  exact ⟨rfl, b1.trans (b2.mono b1.size)⟩
end Go.Proofs.YtillilllceeonaaDoor
