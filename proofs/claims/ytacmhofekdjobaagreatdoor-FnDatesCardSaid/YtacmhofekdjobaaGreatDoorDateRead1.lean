
/- The walks of a reader of tokens: the next token, looked at or taken. -/
import Derived.Test.YtacmhofekdjobaaGreatDoorDateScan
namespace Go.Proofs.YtacmhofekdjobaaGreatDoor
open Go.RowKit Go.Lib
set_option maxRecDepth 20000 in
theorem OwnT.cell3 {B g cap n : Nat} {p : List Tk} {w : World} (h : OwnT B (.slice (some ⟨g, 0, none⟩) n cap) p w) (j : Nat) (hj : j < p.length) :
    w.cell? ⟨g, j * 3, none⟩ = some (.int .i64 p[j].kind) ∧ w.cell? ⟨g, j * 3 + 1, none⟩ = some (.string p[j].text) ∧ w.cell? ⟨g, j * 3 + 2, none⟩ = some (.int .i64 p[j].at_) := by
  obtain ⟨h0, h1, h2⟩ := cellsT_get p j hj
  have e0 := World.ownsRow.cells h (g := g) rfl (j * 3) _ h0
  have e1 := World.ownsRow.cells h (g := g) rfl (j * 3 + 1) _ h1
  have e2 := World.ownsRow.cells h (g := g) rfl (j * 3 + 2) _ h2
  rw [add_off] at e0 e1 e2
  exact ⟨e0, e1, e2⟩
/-- A reader of the tokens T, of which n are taken. -/
structure Rd (B : Nat) (T : List Tk) (g : Nat) (s : ByteArray) (q : Nat × Nat) (n : Nat) (ill : Bool) (w : World) : Prop where
  dr : Dr w g s (.slice (some ⟨q.1, 0, none⟩) T.length q.2) n ill
  own : OwnT B (.slice (some ⟨q.1, 0, none⟩) T.length q.2) T w
  lt : g < B
set_option maxRecDepth 20000 in
theorem Dr.lt {w : World} {g : Nat} {s : ByteArray} {v : Value} {n : Nat} {ill : Bool} (h : Dr w g s v n ill) : g < w.heap.size := by
  obtain ⟨a, b, h⟩ := h.ex
  exact hp_lt h
set_option maxRecDepth 20000 in
theorem Dr.below {w w' : World} {g : Nat} {s : ByteArray} {v : Value} {n : Nat} {ill : Bool} (h : Dr w g s v n ill) (hb : Below w.heap.size w w') : Dr w' g s v n ill := by
  have hl := h.lt
  obtain ⟨a, b, h⟩ := h.ex
  exact ⟨a, b, (hb.block g hl).trans h⟩
set_option maxRecDepth 20000 in
theorem Rd.glt {B g n : Nat} {T : List Tk} {s : ByteArray} {q : Nat × Nat} {ill : Bool} {w : World} (h : Rd B T g s q n ill w) : g < w.heap.size := by
  exact h.dr.lt
set_option maxRecDepth 20000 in
theorem Rd.below {B g n : Nat} {T : List Tk} {s : ByteArray} {q : Nat × Nat} {ill : Bool} {w w' : World} (h : Rd B T g s q n ill w) (hb : Below w.heap.size w w') : Rd B T g s q n ill w' := by
  obtain ⟨h1, h2, hl⟩ := h
  exact ⟨h1.below hb, h2.gr (grown_below (r := some g) hb) hl, hl⟩
set_option maxRecDepth 20000 in
theorem Rd.setN {B g n : Nat} {T : List Tk} {s : ByteArray} {q : Nat × Nat} {ill : Bool} {w : World} (h : Rd B T g s q n ill w) (m : Nat) (k : Int) (hk : k = m) : Rd B T g s q m ill (w.setCell ⟨g, 4, none⟩ (.int .i64 k)) := by
  subst hk
  obtain ⟨h1, h2, hl⟩ := h
  obtain ⟨a, b, h1⟩ := h1.ex
  exact ⟨⟨a, b, by simp [World.setCell, Array.getElem?_modify, h1]⟩, h2.gr (grown_set w g 4 _) hl, hl⟩
set_option maxRecDepth 20000 in
theorem Rd.setIll {B g n : Nat} {T : List Tk} {s : ByteArray} {q : Nat × Nat} {ill : Bool} {w : World} (h : Rd B T g s q n ill w) (b' : Bool) : Rd B T g s q n b' (w.setCell ⟨g, 5, none⟩ (.bool b')) := by
  obtain ⟨h1, h2, hl⟩ := h
  obtain ⟨a, b, h1⟩ := h1.ex
  exact ⟨⟨a, b, by simp [World.setCell, Array.getElem?_modify, h1]⟩, h2.gr (grown_set w g 5 _) hl, hl⟩
set_option maxRecDepth 20000 in
theorem Dr.cells {w : World} {g : Nat} {s : ByteArray} {v : Value} {n : Nat} {ill : Bool} (h : Dr w g s v n ill) :
    w.cell? ⟨g, 0, none⟩ = some (.string s) ∧ w.cell? ⟨g, 3, none⟩ = some v ∧ w.cell? ⟨g, 4, none⟩ = some (.int .i64 n) ∧ w.cell? ⟨g, 5, none⟩ = some (.bool ill) ∧ (∀ j, w.frozen? ⟨g, j, none⟩ = false) := by
  obtain ⟨a, b, h⟩ := h.ex
  refine ⟨?_, ?_, ?_, ?_, fun j => ?_⟩ <;> simp [World.cell?, World.frozen?, h]
set_option maxRecDepth 20000 in
set_option maxHeartbeats 4000000 in
theorem rdPast (B g n : Nat) (T : List Tk) (s : ByteArray) (q : Nat × Nat) (ill : Bool) (w : World) (h : Rd B T g s q n ill w) (_hl : T.length ≤ 100) (hn : n ≤ T.length) (hk : ∀ t ∈ T, t.kind ≠ 4) :
    Calls Tryz.prog 85 #[scp g, .int .i64 n] w fun e w' => e = .returned (.int .i64 n) ∧ w' = w := by
  obtain ⟨h1, h2, -⟩ := h
  obtain ⟨gv, cap⟩ := q
  dsimp only at h1 h2
  obtain ⟨-, c3, -, -, -⟩ := h1.cells
  clear h1
  go_enter Tryz.func85, Tryz.ntmps85
  go_wp2
  go_loopw [1] (fun v wr => v = .int .i64 n ∧ wr = w) (fun _ _ => 0)
  case atStart => exact ⟨rfl, rfl⟩
  case round =>
    obtain ⟨rfl, rfl⟩ := hrel
    by_cases hlt : n < T.length
    · obtain ⟨k0, -, -⟩ := h2.cell3 n hlt
      have hne : (T[n].kind == 4) = false := by simpa using hk _ (List.getElem_mem hlt)
      have f1 : (n : Int) < (T.length : Int) := by omega
      generalize T[n].kind = kd at *
      go_wp2
      go_ret
      exact ⟨rfl, rfl⟩
    · have f1 : ¬ (n : Int) < (T.length : Int) := by omega
      go_wp2
      go_ret
      exact ⟨rfl, rfl⟩
/-- The token that comes next, and the end behind them all. -/
structure Nx (T : List Tk) (s : ByteArray) (n : Nat) (t : Tk) : Prop where
  or : (n < T.length ∧ T[n]? = some t ∧ t.kind ≠ 0) ∨ (n = T.length ∧ t = ⟨0, ⟨#[]⟩, s.size⟩)
set_option maxRecDepth 20000 in
theorem Nx.le {T : List Tk} {s : ByteArray} {n : Nat} {t : Tk} (h : Nx T s n t) : n ≤ T.length := by
  rcases h.or with h | h <;> omega
set_option maxRecDepth 20000 in
theorem token_cells {w : World} {g : Nat} {a : Int} {t : ByteArray} {b : Int} (h : w.heap[g]? = some (.cells #[.int .i64 a, .string t, .int .i64 b] 70 (0, 0))) :
    w.cell? ⟨g, 0, none⟩ = some (.int .i64 a) ∧ w.cell? ⟨g, 1, none⟩ = some (.string t) ∧ w.cell? ⟨g, 2, none⟩ = some (.int .i64 b) := tok_cells h
set_option maxRecDepth 20000 in
theorem below_setRow {w W : World} {k : Nat} {cs : Array Value} (hb : Below k w W) (_hk : k ≤ k) (b : Nat) (hbk : k ≤ b) : Below k w (W.setRow b cs) :=
  ⟨hb.os, hb.tape, hb.output, by simpa using hb.size, fun i hi => (setRow_other W b i _ (by omega)).trans (hb.block i hi)⟩
set_option maxRecDepth 20000 in
set_option maxHeartbeats 4000000 in
theorem rdTokenAt (B g n : Nat) (T : List Tk) (s : ByteArray) (q : Nat × Nat) (ill : Bool) (t : Tk) (w : World) (h : Rd B T g s q n ill w) (_hl : T.length ≤ 100) (_hs : s.size ≤ 4000) (ht : Nx T s n t) :
    Calls Tryz.prog 84 #[scp g, .int .i64 n] w fun e w' => e = .returned (tkV t) ∧ Below w.heap.size w w' := by
  obtain ⟨W, hW⟩ : ∃ W, W = w.alloc (.cells #[.int .i64 0, .string ⟨#[]⟩, .int .i64 0] 70) := ⟨_, rfl⟩
  have hbW : Below w.heap.size w W := by rw [hW]; exact (Below.refl _ _).alloc (Nat.le_refl _) _
  have hr0 : W.heap[w.heap.size]? = some (.cells #[.int .i64 0, .string ⟨#[]⟩, .int .i64 0] 70 (0, 0)) := by rw [hW]; exact hp_alloc w _
  have h' := h.below hbW
  obtain ⟨h1, h2, -⟩ := h'
  obtain ⟨gv, cap⟩ := q
  dsimp only at h1 h2
  obtain ⟨c0, c3, -, -, -⟩ := h1.cells
  clear h h1
  obtain ⟨tk, tx, ta⟩ := t
  rcases ht.or with ⟨hlt, hg, -⟩ | ⟨hn, hg⟩
  · obtain ⟨k0, k1, k2⟩ := h2.cell3 n hlt
    have f1 : ((n : Int) == (T.length : Int)) = false := by simp; omega
    have f2 : (n : Int) < (T.length : Int) := by omega
    rw [List.getElem?_eq_getElem hlt] at hg
    have hg := Option.some.inj hg
    rw [hg] at k0 k1 k2
    clear h2 hg ht
    subst hW
    go_enter Tryz.func84, Tryz.ntmps84
    go_wp2_with fail
    refine bodyPost_ret (v := .agg #[.int .i64 tk, .string tx, .int .i64 ta]) (by simp [results, Tryz.results84, go_sem]) rfl ?_
    exact ⟨rfl, (Below.refl _ _).alloc (Nat.le_refl _) _⟩
  · have f1 : ((n : Int) == (T.length : Int)) = true := by simp; omega
    obtain ⟨rfl, rfl, rfl⟩ := Tk.mk.inj hg
    clear h2 hg ht
    subst hW
    go_enter Tryz.func84, Tryz.ntmps84
    go_wp2_with fail
    refine bodyPost_ret (v := .agg #[.int .i64 0, .string ⟨#[]⟩, .int .i64 (s.size : Int)]) (by simp [results, Tryz.results84, go_sem]) rfl ?_
    exact ⟨rfl, (Below.refl _ _).alloc (Nat.le_refl _) _⟩
set_option maxRecDepth 20000 in
set_option maxHeartbeats 4000000 in
theorem rdPeek (B g n : Nat) (T : List Tk) (s : ByteArray) (q : Nat × Nat) (ill : Bool) (t : Tk) (w : World) (h : Rd B T g s q n ill w) (hl : T.length ≤ 100) (hs : s.size ≤ 4000) (hk : ∀ t ∈ T, t.kind ≠ 4) (ht : Nx T s n t) :
    Calls Tryz.prog 58 #[scp g] w fun e w' => e = .returned (tkV t) ∧ Below w.heap.size w w' := by
  obtain ⟨W, hW⟩ : ∃ W, W = w.alloc (.cells #[.int .i64 0, .string ⟨#[]⟩, .int .i64 0] 70) := ⟨_, rfl⟩
  have hbW : Below w.heap.size w W := by rw [hW]; exact (Below.refl _ _).alloc (Nat.le_refl _) _
  have hr0 : W.heap[w.heap.size]? = some (.cells #[.int .i64 0, .string ⟨#[]⟩, .int .i64 0] 70 (0, 0)) := by rw [hW]; exact hp_alloc w _
  have h' := h.below hbW
  have hP := rdPast B g n T s q ill W h' hl ht.le hk
  have hA := rdTokenAt B g n T s q ill t W h' hl hs ht
  obtain ⟨h1, -, -⟩ := h'
  obtain ⟨-, -, c4, -, -⟩ := h1.cells
  rw [hW] at c4
  clear h h1 ht
  obtain ⟨tk, tx, ta⟩ := t
  go_enter Tryz.func58, Tryz.ntmps58
  go_wp2_with fail
  rw [← hW]
  clear hW c4
  refine hP.mono ?_
  rintro e w1 ⟨rfl, rfl⟩
  clear hP
  go_wp2_with fail
  refine hA.mono ?_
  rintro e w2 ⟨rfl, hb2⟩
  clear hA
  have hr2 := (hb2.block _ (hp_lt hr0)).trans hr0
  have hB2 : Below w.heap.size w w2 := hbW.trans (hb2.mono hbW.size)
  have hV : tkV ⟨tk, tx, ta⟩ = .agg #[.int .i64 tk, .string tx, .int .i64 ta] := rfl
  rw [hV]
  have HB := (show Hid _ from hB2)
  clear hr0 hb2 hbW hB2
  go_wp2_with (first | (refine wpL_store_row rfl 70 _ _ rfl w.heap.size #[.int .i64 tk, .string tx, .int .i64 ta] rfl rfl 70 _ hr2 (by kernel_rfl) rfl (by simp [Value.oneCell']) ?_) | go_in)
  have hh : (w2.setRow w.heap.size #[.int .i64 tk, .string tx, .int .i64 ta]).heap[w.heap.size]? = some (.cells #[.int .i64 tk, .string tx, .int .i64 ta] 70 (0, 0)) := setRow_heap _ _ _ _ _ _ hr2
  have hG : Below w.heap.size w (w2.setRow w.heap.size #[.int .i64 tk, .string tx, .int .i64 ta]) := below_setRow HB.out (Nat.le_refl _) _ (Nat.le_refl _)
  generalize w2.setRow w.heap.size #[.int .i64 tk, .string tx, .int .i64 ta] = V at hh hG
  obtain ⟨d0, d1, d2⟩ := tok_cells hh
  refine bodyPost_ret (v := .agg #[.int .i64 tk, .string tx, .int .i64 ta]) (by simp [results, Tryz.results58, go_sem, d0, d1, d2]) rfl ?_
  exact ⟨rfl, hG⟩
set_option maxRecDepth 20000 in
set_option maxHeartbeats 4000000 in
theorem rdTake (B g n : Nat) (T : List Tk) (s : ByteArray) (q : Nat × Nat) (ill : Bool) (t : Tk) (w : World) (h : Rd B T g s q n ill w) (hl : T.length ≤ 100) (hs : s.size ≤ 4000) (hk : ∀ t ∈ T, t.kind ≠ 4) (hn : T[n]? = some t) (h0 : t.kind ≠ 0) :
    Calls Tryz.prog 60 #[scp g] w fun e w' => e = .returned (tkV t) ∧ Rd B T g s q (n + 1) ill w' ∧ w.grownBy w' (some g) := by
  have hlt : n < T.length := by
    by_cases hc : n < T.length
    · exact hc
    · rw [List.getElem?_eq_none (by omega)] at hn; cases hn
  have ht : Nx T s n t := ⟨.inl ⟨hlt, hn, h0⟩⟩
  obtain ⟨W, hW⟩ : ∃ W, W = w.alloc (.cells #[.int .i64 0, .string ⟨#[]⟩, .int .i64 0] 70) := ⟨_, rfl⟩
  have hbW : Below w.heap.size w W := by rw [hW]; exact (Below.refl _ _).alloc (Nat.le_refl _) _
  have hr0 : W.heap[w.heap.size]? = some (.cells #[.int .i64 0, .string ⟨#[]⟩, .int .i64 0] 70 (0, 0)) := by rw [hW]; exact hp_alloc w _
  have h' := h.below hbW
  have hgl := h.glt
  have hA := rdPeek B g n T s q ill t W h' hl hs hk ht
  have HO := (show Hid _ from h)
  have HP := (show Hid _ from fun (w : World) h => rdPast B g n T s q ill w h hl (by omega) hk)
  clear h ht hn
  obtain ⟨tk, tx, ta⟩ := t
  have hk0 : (tk == 0) = false := by simpa using h0
  go_enter Tryz.func60, Tryz.ntmps60
  go_wp2_with fail
  rw [← hW]
  refine hA.mono ?_
  rintro e w2 ⟨rfl, hb2⟩
  clear hA
  have hr2 := (hb2.block _ (hp_lt hr0)).trans hr0
  have hB2 : Below w.heap.size w w2 := hbW.trans (hb2.mono hbW.size)
  have h2 := h'.below hb2
  have hV : tkV ⟨tk, tx, ta⟩ = .agg #[.int .i64 tk, .string tx, .int .i64 ta] := rfl
  rw [hV]
  clear hr0 hb2 hbW hW h'
  obtain ⟨X, hX⟩ : ∃ X, X = w2.alloc (.cells #[.int .i64 tk, .string tx, .int .i64 ta] 70) := ⟨_, rfl⟩
  have hbX : Below w2.heap.size w2 X := by rw [hX]; exact (Below.refl _ _).alloc (Nat.le_refl _) _
  have hx0 : X.heap[w2.heap.size]? = some (.cells #[.int .i64 tk, .string tx, .int .i64 ta] 70 (0, 0)) := by rw [hX]; exact hp_alloc w2 _
  have hrX := (hbX.block _ (hp_lt hr2)).trans hr2
  have hw2 : w.heap.size < w2.heap.size := hp_lt hr2
  have hBX : Below w.heap.size w X := hB2.trans (hbX.mono (by omega))
  have h3 := h2.below hbX
  have h4 := h3.setN (n + 1) ((n : Int) + 1) (by omega)
  obtain ⟨h1, -, -⟩ := id h3
  obtain ⟨-, -, c4, -, cf⟩ := h1.cells
  have cf4 := cf 4
  obtain ⟨x0, x1, x2⟩ := tok_cells hx0
  have c4' := c4
  have x0' := x0
  rw [hX] at c4' x0'
  have hn100 : (n : Int) < 100 := by omega
  have HX := (show Hid (X = _) from hX)
  have H4 := (show Hid (Rd B T g s q (n + 1) ill (X.setCell ⟨g, 4, none⟩ (.int .i64 ((n : Int) + 1)))) from h4)
  have H3 := (show Hid _ from h3)
  have HB := (show Hid _ from hBX)
  clear h2 h1 cf hB2 hbX hr2 h3 h4 hBX hX
  go_wp2_with fail
  rw [← HX.out]
  clear c4' x0' HX
  refine (HP.out X H3.out).mono ?_
  rintro e w5 ⟨rfl, rfl⟩
  clear HP H3
  have hy0 : (w5.setCell ⟨g, 4, none⟩ (.int .i64 ((n : Int) + 1))).heap[w2.heap.size]? = some (.cells #[.int .i64 tk, .string tx, .int .i64 ta] 70 (0, 0)) := by simp [World.setCell, Array.getElem?_modify, hx0, show g ≠ w2.heap.size by omega]
  have hyr : (w5.setCell ⟨g, 4, none⟩ (.int .i64 ((n : Int) + 1))).heap[w.heap.size]? = some (.cells #[.int .i64 0, .string ⟨#[]⟩, .int .i64 0] 70 (0, 0)) := by simp [World.setCell, Array.getElem?_modify, hrX, show g ≠ w.heap.size by omega]
  have hG5 : w.grownBy (w5.setCell ⟨g, 4, none⟩ (.int .i64 ((n : Int) + 1))) (some g) := grown_trans (grown_below HB.out) (grown_set w5 g 4 _)
  have HG := (show Hid _ from hG5)
  clear hG5 HB hx0 hrX x0 x1 x2
  go_wp2_with (first | (refine wpL_store_row rfl 70 _ _ rfl w.heap.size #[.int .i64 tk, .string tx, .int .i64 ta] rfl rfl 70 _ hyr (by kernel_rfl) rfl (by simp [Value.oneCell']) ?_) | (refine wpL_load_row rfl 70 _ rfl w2.heap.size _ 70 (0, 0) _ rfl hy0 Tryz.underlying70 rfl (by kernel_rfl) ?_) | go_in)
  have hh : ((w5.setCell ⟨g, 4, none⟩ (.int .i64 ((n : Int) + 1))).setRow w.heap.size #[.int .i64 tk, .string tx, .int .i64 ta]).heap[w.heap.size]? = some (.cells #[.int .i64 tk, .string tx, .int .i64 ta] 70 (0, 0)) := setRow_heap _ _ _ _ _ _ hyr
  have hG : w.grownBy ((w5.setCell ⟨g, 4, none⟩ (.int .i64 ((n : Int) + 1))).setRow w.heap.size #[.int .i64 tk, .string tx, .int .i64 ta]) (some g) := ⟨HG.out.os, HG.out.tape, HG.out.output, by simpa using HG.out.size, fun i hi hr => (setRow_other _ w.heap.size i _ (by omega)).trans (HG.out.block i hi hr)⟩
  have hD : Dr ((w5.setCell ⟨g, 4, none⟩ (.int .i64 ((n : Int) + 1))).setRow w.heap.size #[.int .i64 tk, .string tx, .int .i64 ta]) g s (.slice (some ⟨q.1, 0, none⟩) T.length q.2) (n + 1) ill := by
    obtain ⟨a, b, e⟩ := H4.out.dr.ex
    exact ⟨a, b, (setRow_other _ w.heap.size g _ (by omega)).trans e⟩
  generalize (w5.setCell ⟨g, 4, none⟩ (.int .i64 ((n : Int) + 1))).setRow w.heap.size #[.int .i64 tk, .string tx, .int .i64 ta] = V at hh hG hD
  obtain ⟨d0, d1, d2⟩ := tok_cells hh
  refine bodyPost_ret (v := .agg #[.int .i64 tk, .string tx, .int .i64 ta]) (by simp [results, Tryz.results60, go_sem, d0, d1, d2]) rfl ?_
  exact ⟨rfl, ⟨hD, HO.out.own.gr hG HO.out.lt, HO.out.lt⟩, hG⟩
end Go.Proofs.YtacmhofekdjobaaGreatDoor
