
/- A source of draws: operations on a store. -/
import Derived.Test.YtillilllceeonaaDoorDrawOpE
import Derived.Test.YtillilllceeonaaDoorWriteHead
import Derived.Deep.Cut
namespace Go.Proofs.YtillilllceeonaaDoor
open Go.RowKit Go.Lib Go.Maps
/-- An operation's parts. -/
structure OpP where
  k : Int
  bx : ByteArray
  tt : ByteArray
  U : List Int
  P : List ByteArray
  tm : Int
  md : Int
  ms : ByteArray
def OpP.ok (q : OpP) : Prop := (-10 ≤ q.k ∧ q.k ≤ 100) ∧ q.bx.size ≤ 300 ∧ q.tt.size ≤ 300 ∧ q.U.length ≤ 310 ∧ (∀ u ∈ q.U, -1 ≤ u ∧ u ≤ 5000000000) ∧ q.P.length ≤ 10 ∧ (∀ t ∈ q.P, t.size ≤ 300) ∧ (-1 ≤ q.tm ∧ q.tm ≤ 300000000000) ∧ (-1 ≤ q.md ∧ q.md ≤ 5000000000) ∧ q.ms.size ≤ 110000
def OpP.few (q : OpP) (pm : Nat) : Prop := q.P.length ≤ pm ∧ q.U.length ≤ 4
set_option maxRecDepth 20000 in
theorem OpP.few.up {q : OpP} {pm pm' : Nat} (h : q.few pm) (hp : pm ≤ pm') : q.few pm' := ⟨Nat.le_trans h.1 hp, h.2⟩
/-- The block Bk holds an operation, whose lists lie among the blocks from B on. -/
def OpAt (B Bk : Nat) (q : OpP) (W : World) : Prop := ∃ (uo fo : Option Addr) (uc fc : Nat), W.heap[Bk]? = some (.cells #[.int .i64 q.k, .string q.bx, .string q.tt, .slice uo q.U.length uc, .slice fo q.P.length fc, .int .i64 q.tm, .int .i64 q.md, .string q.ms] 26 (0, 0)) ∧ OwnN B (.slice uo q.U.length uc) q.U W ∧ OwnX B (.slice fo q.P.length fc) q.P W
/-- What stands between two parts of the draw. -/
def OpSt (w : World) (g : Nat) (o : Option Addr) (cl cp z lim R Bk B pm : Nat) (W : World) : Prop := w.grownBy W (some g) ∧ (∃ a', a' ≤ lim ∧ Src W g o cl cp a' z) ∧ W.heap[R]? = some (.cells #[.int .i64 0, .string ⟨#[]⟩, .string ⟨#[]⟩, .slice none 0 0, .slice none 0 0, .int .i64 0, .int .i64 0, .string ⟨#[]⟩] 26 (0, 0)) ∧ ∃ q : OpP, (q.ok ∧ q.few pm) ∧ OpAt B Bk q W
set_option maxRecDepth 20000 in
theorem OwnN.baseD {B B' : Nat} {v : Value} {F : List Int} {w : World} (h : OwnN B v F w) (hB : B' ≤ B) : OwnN B' v F w := by
  refine ⟨h.1, ?_⟩
  rcases h.2 with h0 | ⟨g, cap, cur, hv, hg, hr⟩
  · exact .inl h0
  · exact .inr ⟨g, cap, cur, hv, Nat.le_trans hB hg, hr⟩
set_option maxRecDepth 20000 in
theorem OwnX.baseD {B B' : Nat} {v : Value} {F : List ByteArray} {w : World} (h : OwnX B v F w) (hB : B' ≤ B) : OwnX B' v F w := by
  refine ⟨h.1, ?_⟩
  rcases h.2 with h0 | ⟨g, cap, cur, hv, hg, hr⟩
  · exact .inl h0
  · exact .inr ⟨g, cap, cur, hv, Nat.le_trans hB hg, hr⟩
set_option maxRecDepth 20000 in
theorem OpSt.more {w W : World} {g cl cp z lim lim' R Bk B pm : Nat} {o : Option Addr} (h : OpSt w g o cl cp z lim R Bk B pm W) (hl : lim ≤ lim') : OpSt w g o cl cp z lim' R Bk B pm W := by
  obtain ⟨h1, ⟨a', h2, h3⟩, h4⟩ := h
  exact ⟨h1, ⟨a', by omega, h3⟩, h4⟩
set_option maxRecDepth 20000 in
theorem row_not_block {w : World} {B Bk sz n : Nat} {v : Value} {xs : List Value} {cs : Array Value} {t e : TypeId} {fz : Nat × Nat} (h : w.ownsRow B e sz v n xs) (hb : w.heap[Bk]? = some (.cells cs t fz)) (ht : t ≠ e) : ∀ k, v.ownBlock = some k → k ≠ Bk := by
  intro k hk e2
  subst e2
  rcases h.2 with ⟨rfl, -⟩ | ⟨g, cap, cur, rfl, -, hg, -⟩
  · simp [Value.ownBlock] at hk
  · have e3 : g = k := by simpa [Value.ownBlock] using hk
    rw [e3, hb] at hg
    simp only [Option.some.injEq, Obj.cells.injEq] at hg
    exact ht hg.2.1
set_option maxRecDepth 20000 in
theorem set_other {w : World} {b j k : Nat} {v : Value} (h : k ≠ b) : (w.setCell ⟨b, j, none⟩ v).heap[k]? = w.heap[k]? := by
  simp [World.setCell, Array.getElem?_modify, show b ≠ k from fun e => h e.symm]
set_option maxRecDepth 20000 in
theorem OpAt.rows {B Bk j : Nat} {q : OpP} {W : World} {v : Value} {uo fo : Option Addr} {uc fc : Nat} {cs : Array Value} (hb : W.heap[Bk]? = some (.cells cs 26 (0, 0))) (hU : OwnN B (.slice uo q.U.length uc) q.U W) (hP : OwnX B (.slice fo q.P.length fc) q.P W) :
    OwnN B (.slice uo q.U.length uc) q.U (W.setCell ⟨Bk, j, none⟩ v) ∧ OwnX B (.slice fo q.P.length fc) q.P (W.setCell ⟨Bk, j, none⟩ v) :=
  ⟨row_stay hU fun k hk => set_other (row_not_block hU hb (by decide) k hk), row_stay hP fun k hk => set_other (row_not_block hP hb (by decide) k hk)⟩
set_option maxRecDepth 20000 in
theorem OpAt.setK {B Bk : Nat} {q : OpP} {W : World} (h : OpAt B Bk q W) (v : Int) : OpAt B Bk { q with k := v } (W.setCell ⟨Bk, 0, none⟩ (.int .i64 v)) := by
  obtain ⟨uo, fo, uc, fc, h1, h2, h3⟩ := h
  have h4 := OpAt.rows (j := 0) (v := .int .i64 v) h1 h2 h3
  exact ⟨uo, fo, uc, fc, by simp [World.setCell, Array.getElem?_modify, h1], h4.1, h4.2⟩
set_option maxRecDepth 20000 in
theorem OpAt.setBx {B Bk : Nat} {q : OpP} {W : World} (h : OpAt B Bk q W) (v : ByteArray) : OpAt B Bk { q with bx := v } (W.setCell ⟨Bk, 1, none⟩ (.string v)) := by
  obtain ⟨uo, fo, uc, fc, h1, h2, h3⟩ := h
  have h4 := OpAt.rows (j := 1) (v := .string v) h1 h2 h3
  exact ⟨uo, fo, uc, fc, by simp [World.setCell, Array.getElem?_modify, h1], h4.1, h4.2⟩
set_option maxRecDepth 20000 in
theorem OpAt.setTt {B Bk : Nat} {q : OpP} {W : World} (h : OpAt B Bk q W) (v : ByteArray) : OpAt B Bk { q with tt := v } (W.setCell ⟨Bk, 2, none⟩ (.string v)) := by
  obtain ⟨uo, fo, uc, fc, h1, h2, h3⟩ := h
  have h4 := OpAt.rows (j := 2) (v := .string v) h1 h2 h3
  exact ⟨uo, fo, uc, fc, by simp [World.setCell, Array.getElem?_modify, h1], h4.1, h4.2⟩
set_option maxRecDepth 20000 in
theorem OpAt.setTm {B Bk : Nat} {q : OpP} {W : World} (h : OpAt B Bk q W) (v : Int) : OpAt B Bk { q with tm := v } (W.setCell ⟨Bk, 5, none⟩ (.int .i64 v)) := by
  obtain ⟨uo, fo, uc, fc, h1, h2, h3⟩ := h
  have h4 := OpAt.rows (j := 5) (v := .int .i64 v) h1 h2 h3
  exact ⟨uo, fo, uc, fc, by simp [World.setCell, Array.getElem?_modify, h1], h4.1, h4.2⟩
set_option maxRecDepth 20000 in
theorem OpAt.setMd {B Bk : Nat} {q : OpP} {W : World} (h : OpAt B Bk q W) (v : Int) : OpAt B Bk { q with md := v } (W.setCell ⟨Bk, 6, none⟩ (.int .i64 v)) := by
  obtain ⟨uo, fo, uc, fc, h1, h2, h3⟩ := h
  have h4 := OpAt.rows (j := 6) (v := .int .i64 v) h1 h2 h3
  exact ⟨uo, fo, uc, fc, by simp [World.setCell, Array.getElem?_modify, h1], h4.1, h4.2⟩
set_option maxRecDepth 20000 in
theorem OpAt.setMs {B Bk : Nat} {q : OpP} {W : World} (h : OpAt B Bk q W) (v : ByteArray) : OpAt B Bk { q with ms := v } (W.setCell ⟨Bk, 7, none⟩ (.string v)) := by
  obtain ⟨uo, fo, uc, fc, h1, h2, h3⟩ := h
  have h4 := OpAt.rows (j := 7) (v := .string v) h1 h2 h3
  exact ⟨uo, fo, uc, fc, by simp [World.setCell, Array.getElem?_modify, h1], h4.1, h4.2⟩
set_option maxRecDepth 20000 in
theorem OpAt.gr {B Bk g : Nat} {q : OpP} {W W' : World} (h : OpAt B Bk q W) (hg : W.grownBy W' (some g)) (hB : g < B) (hk : g ≠ Bk) : OpAt B Bk q W' := by
  obtain ⟨uo, fo, uc, fc, h1, h2, h3⟩ := h
  exact ⟨uo, fo, uc, fc, (hg.block Bk (hp_lt h1) (by intro e; have := Option.some.inj e; omega)).trans h1, h2.grG hg hB, h3.grG hg hB⟩
set_option maxRecDepth 20000 in
theorem OpAt.below {B Bk : Nat} {q : OpP} {W W' : World} (h : OpAt B Bk q W) (hb : Below W.heap.size W W') : OpAt B Bk q W' := by
  obtain ⟨uo, fo, uc, fc, h1, h2, h3⟩ := h
  exact ⟨uo, fo, uc, fc, (hb.block Bk (hp_lt h1)).trans h1, h2.below hb, h3.below hb⟩
set_option maxRecDepth 20000 in
theorem OpAt.lt {B Bk : Nat} {q : OpP} {W : World} (h : OpAt B Bk q W) : Bk < W.heap.size := by
  obtain ⟨uo, fo, uc, fc, h1, h2, h3⟩ := h
  exact hp_lt h1
set_option maxRecDepth 20000 in
/-- The cells that the walk reads and writes. -/
theorem OpAt.cells {B Bk : Nat} {q : OpP} {W : World} (h : OpAt B Bk q W) : W.cell? ⟨Bk, 0, none⟩ = some (.int .i64 q.k) ∧ W.cell? ⟨Bk, 1, none⟩ = some (.string q.bx) ∧ W.cell? ⟨Bk, 2, none⟩ = some (.string q.tt) ∧ W.cell? ⟨Bk, 5, none⟩ = some (.int .i64 q.tm) ∧ W.cell? ⟨Bk, 6, none⟩ = some (.int .i64 q.md) ∧ W.cell? ⟨Bk, 7, none⟩ = some (.string q.ms) ∧ ∀ j, W.frozen? ⟨Bk, j, none⟩ = false := by
  obtain ⟨uo, fo, uc, fc, h1, h2, h3⟩ := h
  refine ⟨?_, ?_, ?_, ?_, ?_, ?_, ?_⟩
  all_goals simp [World.cell?, World.frozen?, h1]
def numOk2 (lo hi : Int) : Value → Bool
  | .int .i64 q => decide (lo ≤ q) && decide (q ≤ hi)
  | _ => false
set_option maxRecDepth 20000 in
theorem num_at2 {lo hi : Int} {w w3 : World} {cs : Array Value} {g v : Nat} (hg : (w.alloc (.cells cs 2)).grownBy w3 (some g)) (hgl : g < w.heap.size) (hv : v < cs.size) (hcs : cs.toList.all (numOk2 lo hi) = true) :
    ∃ q : Int, w3.cell? ⟨w.heap.size, v, none⟩ = some (.int .i64 q) ∧ lo ≤ q ∧ q ≤ hi := by
  have hm : numOk2 lo hi cs[v] = true := List.all_eq_true.1 hcs _ (Array.mem_toList_iff.2 (Array.getElem_mem hv))
  have hc : (w.alloc (.cells cs 2)).cell? ⟨w.heap.size, v, none⟩ = some cs[v] := by simp [hv]
  have h3 := gr_cell hg (show w.heap.size ≠ g by omega) hc
  cases hx : cs[v] with
  | int k q =>
    rw [hx] at h3 hm
    cases k with
    | i64 =>
      simp only [numOk2, Bool.and_eq_true, decide_eq_true_eq] at hm
      exact ⟨q, h3, hm.1, hm.2⟩
    | _ => cases hm
  | _ => rw [hx] at hm; cases hm
set_option maxRecDepth 20000 in
theorem Pl.hd_lenD (F : List (ByteArray × ByteArray)) : ∀ p : List UInt8, p.length ≤ 100000 → (Pl.hd p F).length ≤ 100000 := by
  induction F with
  | nil => intro p hp; exact hp
  | cons f r ih =>
    intro p hp
    rw [Pl.hd]
    split
    · split
      · simp
      · exact ih _ (by omega)
    · simp
def ofFact (tv : Value) (Bk g B : Nat) (j : Nat) (v : Value) (w : World) : Prop :=
  match j with
  | 0 => v = .pointer (some ⟨Bk, 4, none⟩)
  | 1 => v = tv
  | 2 => tabM 5 B 4 v w
  | 3 => v = .pointer (some ⟨g, 0, none⟩)
  | 4 => numM 0 4 v
  | 5 => ptrM 5 B v w
  | 6 => txtM 5 v
  | 7 => ∃ (b : Nat) (t : ByteArray), v = .slice (some ⟨b, 0, none⟩) 1 1 ∧ B ≤ b ∧ w.heap[b]? = some (.cells #[.string t] 9 (0, 0)) ∧ t.size ≤ 5
  | _ => True
def ofDst (j : Nat) : Nat :=
  match j with
  | 0 => 73
  | 1 => 74
  | 2 => 75
  | 3 => 76
  | 4 => 77
  | 5 => 78
  | 6 => 79
  | 7 => 80
  | _ => 999
set_option maxRecDepth 20000 in
theorem ofFact.gr {tv : Value} {Bk g B : Nat} (hB : g < B) (j : Nat) (v : Value) (w w' : World) (h : ofFact tv Bk g B j v w) (hg : w.grownBy w' (some g)) : ofFact tv Bk g B j v w' := by
  unfold ofFact at h ⊢
  split
  case h_8 =>
    obtain ⟨b, t, h1, h2, h3, h4⟩ := h
    exact ⟨b, t, h1, h2, by rw [hg.block b (hp_lt h3) (by intro e; have := Option.some.inj e; omega)]; exact h3, h4⟩
  all_goals first
    | exact tabM.gr h hg hB
    | exact ptrM.gr h hg hB
    | exact h
    | trivial
set_option maxRecDepth 20000 in
theorem opAppXe {w : World} {o : Oper} {a : Act} {K : Act → World → Prop} {Q : Exit → Act → World → Prop} (s x : Operand)
    (ho : o.op = .call { callee := .builtin .append, args := #[s, x], argTypes := #[24, 24] })
    (B : Nat) (v : Value) (C : List ByteArray) (hs : a.eval s = v) (hown : OwnX B v C w) (u : ByteArray) (g c : Nat) (hx : a.eval x = .slice (some ⟨g, 0, none⟩) 1 c) (hnew : w.heap[g]? = some (.cells #[.string u] 9 (0, 0))) (hlen : C.length ≤ 1000000) (hB : B ≤ w.heap.size)
    (h : ∀ v' w', OwnX B v' (C ++ [u]) w' → w.grownBy w' v.ownBlock → K (a.put o.dst v') w') : o.wp Tryd.prog a w K Q := by
  obtain ⟨i0, hi0, hz0, hz1, hz2⟩ := info_parts Tryd.info9X
  unfold OwnX at hown
  obtain ⟨v', w', hr, h2, h3, h4, h5⟩ := run_append_own_at (P := Tryd.prog) w B 24 o.type 9 i0 (.string ⟨#[]⟩) 1 16 Tryd.underlying24 hi0 hz0 hz1 hz2 rfl (by decide) v C.length (strCellsX C) hown ⟨g, 0, none⟩ 1 c [.string u] rfl (by
    intro j y hj
    match j, hj with
    | 0, hj => simp at hj; subst hj; simp [Addr.add, World.cell?, hnew]) (by
    intro y hy
    simp at hy
    subst hy
    rfl) (by unfold maxLen; omega) (by omega) hB
  unfold Oper.wp execOp
  simp only [ho, resolve, invoke, builtin, Sem.run_bind, Sem.run_pure, Result.andThen_ok, List.map_toArray, List.map_cons, List.map_nil, hs, hx, hr]
  refine h v' w' ?_ h3
  unfold OwnX strCellsX
  rw [List.map_append, List.length_append]
  exact h2
abbrev rgActF (L M R : List Value) : Act := { tmps := (L ++ M ++ R).toArray, defers := [] }
set_option maxRecDepth 40000 in
set_option maxHeartbeats 16000000 in
theorem srcOp (g : Nat) (o : Option Addr) (c : List UInt8) (cp a z : Nat) (w : World) (h : Src w g o c.length cp a z) (hc : Code g w o c) (ha : a ≤ 400000000000) (hl : c.length ≤ 1048576) (hz : z ≤ 12) :
    Calls Tryd.prog 19 #[.pointer (some ⟨g, 0, none⟩)] w fun e w' => ∃ (q : OpP) (uo fo : Option Addr) (uc fc a' : Nat), e = .returned (.agg #[.int .i64 q.k, .string q.bx, .string q.tt, .slice uo q.U.length uc, .slice fo q.P.length fc, .int .i64 q.tm, .int .i64 q.md, .string q.ms]) ∧ (q.ok ∧ q.few 4) ∧ OwnN w.heap.size (.slice uo q.U.length uc) q.U w' ∧ OwnX w.heap.size (.slice fo q.P.length fc) q.P w' ∧ a' ≤ a + 1700200 ∧ Src w' g o c.length cp a' z ∧ w.grownBy w' (some g) := by
  have HC : Hid (Code g w o c) := hc
  have hgl := h.lt
  have Hs := mkHid h
  have Hg : Hid (w.grownBy w (some g)) := gr_refl _ _
  clear h hc
  go_enter Tryd.func19, Tryd.ntmps19
  obtain ⟨W1, hW1⟩ : ∃ W, w.alloc (.cells #[.int .i64 0, .string ⟨#[]⟩, .string ⟨#[]⟩, .slice none 0 0, .slice none 0 0, .int .i64 0, .int .i64 0, .string ⟨#[]⟩] 26) = W := ⟨_, rfl⟩
  have b1 : Below w.heap.size w W1 := by rw [← hW1]; exact (Below.refl _ _).alloc (Nat.le_refl _) _
  obtain ⟨R, hR⟩ : ∃ R, R = w.heap.size := ⟨_, rfl⟩
  have HR0 : Hid (W1.heap[R]? = some (.cells #[.int .i64 0, .string ⟨#[]⟩, .string ⟨#[]⟩, .slice none 0 0, .slice none 0 0, .int .i64 0, .int .i64 0, .string ⟨#[]⟩] 26 (0, 0))) := by rw [← hW1, hR]; exact hp_alloc _ _
  have Hs1 := mkHid (Hs.out.below b1)
  have Hg1 : Hid (w.grownBy W1 (some g)) := gr_below b1
  have HW1 := mkHid hW1
  have hRg : g < R := by omega
  have hRw : w.heap.size ≤ R := by omega
  have HRe := mkHid hR
  clear b1 hW1 Hs Hg hR
  have hN108 := srcBoxName g o c cp a z W1 Hs1.out (HC.out.grown Hg1.out (Nat.le_refl _)) (by omega) hl
  go_wp2_with fail
  rw [HW1.out, ← HRe.out]
  refine hN108.mono ?_
  rintro e w103 ⟨t101, a102, rfl, hzt101, ha102, hs106, hg107⟩
  have Hs104 := mkHid hs106
  have Hg105 := mkHid (gr_trans Hg1.out hg107)
  have HB109 : Hid (w103.heap[R]? = some (.cells #[.int .i64 0, .string ⟨#[]⟩, .string ⟨#[]⟩, .slice none 0 0, .slice none 0 0, .int .i64 0, .int .i64 0, .string ⟨#[]⟩] 26 (0, 0))) := (hg107.block R (hp_lt HR0.out) (by intro e; have := Option.some.inj e; omega)).trans HR0.out
  clear HR0
  clear hN108 hs106 hg107 Hs1 Hg1
  have hN117 := srcBoxName g o c cp a102 z w103 Hs104.out (HC.out.grown Hg105.out (Nat.le_refl _)) (by omega) hl
  go_wp2_with fail
  refine hN117.mono ?_
  rintro e w112 ⟨t110, a111, rfl, hzt110, ha111, hs115, hg116⟩
  have Hs113 := mkHid hs115
  have Hg114 := mkHid (gr_trans Hg105.out hg116)
  have HB118 : Hid (w112.heap[R]? = some (.cells #[.int .i64 0, .string ⟨#[]⟩, .string ⟨#[]⟩, .slice none 0 0, .slice none 0 0, .int .i64 0, .int .i64 0, .string ⟨#[]⟩] 26 (0, 0))) := (hg116.block R (hp_lt HB109.out) (by intro e; have := Option.some.inj e; omega)).trans HB109.out
  clear HB109
  clear hN117 hs115 hg116 Hs104 Hg105
  have hB9 : R < w112.heap.size := hp_lt HB118.out
  have hg9 : w.heap.size ≤ w112.heap.size := Hg114.out.size
  have hN124 := srcUids g o c cp a111 z w112 Hs113.out (HC.out.grown Hg114.out (Nat.le_refl _)) (by omega) hl
  go_wp2_with fail
  refine hN124.mono ?_
  rintro e w119 ⟨uv, U, a8, rfl, hU, hUb, hUo0, ha8, hs122, hg123⟩
  have Hs120 := mkHid hs122
  have Hg121 := mkHid (gr_trans Hg114.out hg123)
  have HB125 : Hid (w119.heap[R]? = some (.cells #[.int .i64 0, .string ⟨#[]⟩, .string ⟨#[]⟩, .slice none 0 0, .slice none 0 0, .int .i64 0, .int .i64 0, .string ⟨#[]⟩] 26 (0, 0))) := (hg123.block R (hp_lt HB118.out) (by intro e; have := Option.some.inj e; omega)).trans HB118.out
  clear HB118
  clear hN124 hs122 hg123 Hs113 Hg114
  have HUo := mkHid hUo0
  clear hUo0
  obtain ⟨uo, uc, rfl⟩ := HUo.out.shape
  have hgU : w.heap.size ≤ w119.heap.size := Hg121.out.size
  have hN131 := srcFlags g o c cp a8 z w119 Hs120.out (HC.out.grown Hg121.out (Nat.le_refl _)) (by omega) hl
  go_wp2_with fail
  refine hN131.mono ?_
  rintro e w126 ⟨fv, P, a9, rfl, hP, hPb, hPo0, ha9, hs129, hg130⟩
  have Hs127 := mkHid hs129
  have Hg128 := mkHid (gr_trans Hg121.out hg130)
  have HB132 : Hid (w126.heap[R]? = some (.cells #[.int .i64 0, .string ⟨#[]⟩, .string ⟨#[]⟩, .slice none 0 0, .slice none 0 0, .int .i64 0, .int .i64 0, .string ⟨#[]⟩] 26 (0, 0))) := (hg130.block R (hp_lt HB125.out) (by intro e; have := Option.some.inj e; omega)).trans HB125.out
  have HR133 := mkHid (HUo.out.grG hg130 (by omega))
  clear HB125 HUo
  clear hN131 hs129 hg130 Hs120 Hg121
  have HPo := mkHid hPo0
  clear hPo0
  obtain ⟨fo, fc, rfl⟩ := HPo.out.shape
  have hR2 := hp_alloc w126 (.cells #[.int .i64 0, .string ⟨#[]⟩, .string ⟨#[]⟩, .slice none 0 0, .slice none 0 0, .int .i64 0, .int .i64 0, .string ⟨#[]⟩] 26)
  go_wp2_with (refine wpL_store_row rfl 26 _ _ rfl w126.heap.size _ rfl rfl 26 _ hR2 (by kernel_rfl) rfl (by simp [Value.oneCell']) ?_; refine Hid.out ?_)
  obtain ⟨V5, hV5⟩ : ∃ V, (w126.alloc (.cells #[.int .i64 0, .string ⟨#[]⟩, .string ⟨#[]⟩, .slice none 0 0, .slice none 0 0, .int .i64 0, .int .i64 0, .string ⟨#[]⟩] 26)).setRow w126.heap.size #[.int .i64 0, .string t101, .string t110, .slice uo U.length uc, .slice fo P.length fc, .int .i64 0, .int .i64 0, .string ⟨#[]⟩] = V := ⟨_, rfl⟩
  have hb5 := below_row hV5
  have HB5 : V5.heap[w126.heap.size]? = some (.cells #[.int .i64 0, .string t101, .string t110, .slice uo U.length uc, .slice fo P.length fc, .int .i64 0, .int .i64 0, .string ⟨#[]⟩] 26 (0, 0)) := by rw [← hV5]; exact setRow_heap _ _ _ _ _ _ hR2
  rw [hV5]
  obtain ⟨Bk, hBk⟩ : ∃ Bk, Bk = w126.heap.size := ⟨_, rfl⟩
  rw [← hBk] at HB5 ⊢
  have hBkg : g < Bk := by rw [hBk]; exact Hs127.out.lt
  have hBkw : w.heap.size ≤ Bk := by rw [hBk]; exact Hg128.out.size
  have hRB : R < Bk := by rw [hBk]; exact hp_lt HB132.out
  have H5 : Hid (OpSt w g o c.length cp z (a + 60) R Bk w.heap.size 3 V5) := by
    refine ⟨gr_trans Hg128.out (gr_below hb5), ⟨a9, by omega, Hs127.out.below hb5⟩, (hb5.block R (hp_lt HB132.out)).trans HB132.out, ⟨0, t101, t110, U, P, 0, 0, ⟨#[]⟩⟩, ?_, uo, fo, uc, fc, HB5, (OwnN.baseD (HR133.out) (by omega)).below hb5, (OwnX.baseD HPo.out (by omega)).below hb5⟩
    refine ⟨?_, ⟨by show P.length ≤ 3; omega, by show U.length ≤ 4; omega⟩⟩
    exact ⟨⟨by show (-10 : Int) ≤ 0; decide, by show (0 : Int) ≤ 100; decide⟩, by show ByteArray.size t101 ≤ 300; omega, by show ByteArray.size t110 ≤ 300; omega, by show U.length ≤ 310; omega, fun u hu => by have := hUb u hu; omega, by show P.length ≤ 10; omega, fun t ht => by have := hPb t ht; omega, ⟨by show (-1 : Int) ≤ 0; decide, by show (0 : Int) ≤ 300000000000; decide⟩, ⟨by show (-1 : Int) ≤ 0; decide, by show (0 : Int) ≤ 5000000000; decide⟩, by show ByteArray.size ⟨#[]⟩ ≤ 110000; decide⟩
  clear hR2 hV5 hBk hb5 HB5 HB132 Hs127 Hg128 HR133 HPo hU hUb hP hPb ha8 ha9 hB9 hg9 hgU
  refine mkHid ?_
  obtain ⟨hgW, ⟨aX, haX, hsX⟩, hRX, q, hq, hOp⟩ := H5.out
  clear H5
  have hgV : g < V5.heap.size := hsX.lt
  have hbA : ∀ cs, Below V5.heap.size V5 (V5.alloc (.cells cs 2)) := fun cs => (Below.refl _ _).alloc (Nat.le_refl _) _
  have hN := fun cs => srcN g o c cp aX z 16 (V5.alloc (.cells cs 2)) (hsX.below (hbA cs)) (HC.out.grown (gr_trans hgW (gr_below (hbA cs))) (Nat.le_refl _)) (by omega) hl (by omega) (by omega)
  go_wp2_with fail
  refine (hN _).mono ?_
  rintro e w6 ⟨v6, rfl, hv6, hs6, hg6⟩
  obtain ⟨k6, hc6, hk6a, hk6b⟩ := num_at2 (lo := 1) (hi := 9) hg6 hgV (show v6 < 16 by omega) (by decide)
  have hg56 := gr_trans (gr_below (hbA _)) hg6
  have hOp6 := hOp.gr hg56 hgl (by omega)
  have hR6 := (hg56.block R (hp_lt hRX) (by intro e; have := Option.some.inj e; omega)).trans hRX
  obtain ⟨y0, y1, y2, y5, y6, y7, yf⟩ := hOp6.cells
  have yf0 := yf 0
  have hv6l : v6 < 16 := by omega
  have HS6 : Hid (OpSt w g o c.length cp z (a + 61) R Bk w.heap.size 3 (w6.setCell ⟨Bk, 0, none⟩ (.int .i64 k6))) := by
    refine ⟨gr_setC (gr_trans hgW hg56) hBkw, ⟨aX + 1, by omega, hs6.setC (by omega)⟩, (set_other (by omega)).trans hR6, { q with k := k6 }, ?_, hOp6.setK k6⟩
    obtain ⟨⟨-, q2⟩, qp⟩ := hq
    exact ⟨⟨⟨by show (-10 : Int) ≤ k6; omega, by show k6 ≤ 100; omega⟩, q2⟩, qp⟩
  have hR7 : Hid (Src (w6.setCell ⟨Bk, 0, none⟩ (.int .i64 k6)) g o c.length cp (aX + 1) z) := hs6.setC (by omega)
  have hG7 : Hid (w.grownBy (w6.setCell ⟨Bk, 0, none⟩ (.int .i64 k6)) (some g)) := gr_setC (gr_trans hgW hg56) hBkw
  have hO := srcOne g o c cp (aX + 1) z 2 _ hR7.out (HC.out.grown hG7.out (Nat.le_refl _)) (by omega) hl (by omega) (by omega)
  clear hN hg6 hbA hg56 hOp hOp6 hR6 hRX hgW hsX hs6 y1 y2 y5 y6 y7 yf
  go_wp2_with fail
  refine hO.mono ?_
  rintro e w7 ⟨b7, rfl, hs7, hg7⟩
  have HS7 : Hid (OpSt w g o c.length cp z (a + 62) R Bk w.heap.size 3 w7) := by
    obtain ⟨h1, ⟨a3, h2, h3⟩, h4, q3, h5, h6⟩ := HS6.out
    exact ⟨gr_trans h1 hg7, ⟨_, by omega, hs7⟩, (hg7.block R (hp_lt h4) (by intro e; have := Option.some.inj e; omega)).trans h4, q3, h5, h6.gr hg7 hgl (by omega)⟩
  clear hO hs7 hg7 HS6 hR7 hG7 y0 yf0 hc6 hq
  go_upto_if 20 with fail
  go_cut [] from 4 (fun wc => Hid (OpSt w g o c.length cp z (a + 62) R Bk w.heap.size 3 wc))
  case first =>
    cases b7 with
    | false =>
      go_wp2
      go_meet
      case rel => exact HS7
    | true =>
      obtain ⟨h1, ⟨a3, h2, h3⟩, h4, q3, h5, h6⟩ := HS7.out
      obtain ⟨y0, y1, y2, y5, y6, y7, yf⟩ := h6.cells
      have yf1 := yf 1
      have HS8 : Hid (OpSt w g o c.length cp z (a + 62) R Bk w.heap.size 3 (w7.setCell ⟨Bk, 1, none⟩ (.string ⟨#[73, 78, 66, 79, 88]⟩))) := by
        refine ⟨gr_setC h1 hBkw, ⟨a3, h2, h3.setC (by omega)⟩, (set_other (by omega)).trans h4, { q3 with bx := ⟨#[73, 78, 66, 79, 88]⟩ }, ?_, h6.setBx _⟩
        obtain ⟨⟨q1, q2, q4⟩, qp⟩ := h5
        exact ⟨⟨q1, by show ByteArray.size ⟨#[73, 78, 66, 79, 88]⟩ ≤ 300; decide, q4⟩, qp⟩
      clear h1 h3 h4 h5 h6 HS7 yf
      go_wp2
      go_meet
      case rel => exact HS8
  case rest =>
    obtain ⟨hgW, ⟨aX, haX, hsX⟩, hRX, q, hq, hOp⟩ := hcut.out
    clear hcut
    obtain ⟨x0, x1, x2, x5, x6, x7, xf⟩ := hOp.cells
    have Hs := mkHid hsX
    have Hg := mkHid hgW
    have HR := mkHid hRX
    have HOp := mkHid hOp
    have Hq := mkHid hq
    clear hsX hgW hRX hOp hq
    obtain ⟨Wc, hWc⟩ : ∃ V, V = wc := ⟨_, rfl⟩
    subst hWc
    go_upto_if 24 with fail
    go_cut [] from 4 (fun wc => Hid (OpSt w g o c.length cp z (a + 1700000) R Bk w.heap.size 3 wc))
    case first =>
      by_cases hk4 : q.k = 4
      · have hk4b : (q.k == 4) = true := by rw [hk4]; rfl
        have hN := srcN g o c cp aX z 100000000 Wc Hs.out (HC.out.grown Hg.out (Nat.le_refl _)) (by omega) hl (by omega) (by omega)
        clear hk4
        go_wp2_with fail
        refine hN.mono ?_
        rintro e w8 ⟨v8, rfl, hv8, hs8, hg8⟩
        have Hs8 := mkHid hs8
        have Hg8 := mkHid (gr_trans Hg.out hg8)
        have HR8 : Hid (w8.heap[R]? = some (.cells #[.int .i64 0, .string ⟨#[]⟩, .string ⟨#[]⟩, .slice none 0 0, .slice none 0 0, .int .i64 0, .int .i64 0, .string ⟨#[]⟩] 26 (0, 0))) := (hg8.block R (hp_lt HR.out) (by intro e; have := Option.some.inj e; omega)).trans HR.out
        have HOp8 := mkHid (HOp.out.gr hg8 hgl (by omega))
        clear x0 x1 x2 x5 x6 x7 xf hN hs8 hg8 Hs Hg HR HOp hk4b
        obtain ⟨x0, x1, x2, x5, x6, x7, xf⟩ := HOp8.out.cells
        have xfa := xf 5
        obtain ⟨Va, hVa⟩ : ∃ V, w8.setCell ⟨Bk, 5, none⟩ (.int .i64 (1000000000 + (v8 : Int))) = V := ⟨_, rfl⟩
        have Hsa : Hid (Src Va g o c.length cp (aX + 1) z) := by rw [← hVa]; exact Hs8.out.setC (by omega)
        have Hga : Hid (w.grownBy Va (some g)) := by rw [← hVa]; exact gr_setC Hg8.out hBkw
        have HRa : Hid (Va.heap[R]? = some (.cells #[.int .i64 0, .string ⟨#[]⟩, .string ⟨#[]⟩, .slice none 0 0, .slice none 0 0, .int .i64 0, .int .i64 0, .string ⟨#[]⟩] 26 (0, 0))) := by rw [← hVa]; exact (set_other (by omega)).trans HR8.out
        have HOpa : Hid (OpAt w.heap.size Bk { q with tm := (1000000000 + (v8 : Int)) } Va) := by rw [← hVa]; exact HOp8.out.setTm _
        have Hqa : Hid (OpP.ok { q with tm := (1000000000 + (v8 : Int)) } ∧ OpP.few { q with tm := (1000000000 + (v8 : Int)) } 3) := by
          obtain ⟨⟨q1, q2, q3, q4, q5, q6, q7, q8, q9, q10⟩, qp⟩ := Hq.out
          exact ⟨⟨q1, q2, q3, q4, q5, q6, q7, ⟨by show (-1 : Int) ≤ 1000000000 + (v8 : Int); omega, by show 1000000000 + (v8 : Int) ≤ 300000000000; omega⟩, q9, q10⟩, qp⟩
        have HVa := mkHid hVa
        obtain ⟨qa, hqa⟩ : ∃ q9 : OpP, q9 = { q with tm := (1000000000 + (v8 : Int)) } := ⟨_, rfl⟩
        rw [← hqa] at HOpa Hqa
        clear hVa hqa
        have hP := srcPlainMail g o c cp (aX + 1) z Va Hsa.out (HC.out.grown Hga.out (Nat.le_refl _)) (by omega) hl
        go_wp2_with fail
        rw [HVa.out]
        refine hP.mono ?_
        rintro e w9 ⟨t9, a9, rfl, hz9, ha9, hs9, hg9⟩
        have Hs9 := mkHid hs9
        have Hg9 := mkHid (gr_trans Hga.out hg9)
        have HR9 : Hid (w9.heap[R]? = some (.cells #[.int .i64 0, .string ⟨#[]⟩, .string ⟨#[]⟩, .slice none 0 0, .slice none 0 0, .int .i64 0, .int .i64 0, .string ⟨#[]⟩] 26 (0, 0))) := (hg9.block R (hp_lt HRa.out) (by intro e; have := Option.some.inj e; omega)).trans HRa.out
        have HOp9 := mkHid (HOpa.out.gr hg9 hgl (by omega))
        clear x0 x1 x2 x5 x6 x7 xf xfa hP hs9 hg9 Hsa Hga HRa HOpa HVa Hs8 Hg8 HR8 HOp8
        obtain ⟨x0, x1, x2, x5, x6, x7, xf⟩ := HOp9.out.cells
        have xfb := xf 7
        obtain ⟨Vb, hVb⟩ : ∃ V, w9.setCell ⟨Bk, 7, none⟩ (.string t9) = V := ⟨_, rfl⟩
        have Hsb : Hid (Src Vb g o c.length cp a9 z) := by rw [← hVb]; exact Hs9.out.setC (by omega)
        have Hgb : Hid (w.grownBy Vb (some g)) := by rw [← hVb]; exact gr_setC Hg9.out hBkw
        have HRb : Hid (Vb.heap[R]? = some (.cells #[.int .i64 0, .string ⟨#[]⟩, .string ⟨#[]⟩, .slice none 0 0, .slice none 0 0, .int .i64 0, .int .i64 0, .string ⟨#[]⟩] 26 (0, 0))) := by rw [← hVb]; exact (set_other (by omega)).trans HR9.out
        have HOpb : Hid (OpAt w.heap.size Bk { qa with ms := t9 } Vb) := by rw [← hVb]; exact HOp9.out.setMs _
        have Hqb : Hid (OpP.ok { qa with ms := t9 } ∧ OpP.few { qa with ms := t9 } 3) := by
          obtain ⟨⟨q1, q2, q3, q4, q5, q6, q7, q8, q9, q10⟩, qp⟩ := Hqa.out
          exact ⟨⟨q1, q2, q3, q4, q5, q6, q7, q8, q9, by show t9.size ≤ 110000; omega⟩, qp⟩
        have HVb := mkHid hVb
        obtain ⟨qb, hqb⟩ : ∃ q9 : OpP, q9 = { qa with ms := t9 } := ⟨_, rfl⟩
        rw [← hqb] at HOpb Hqb
        clear hVb hqb
        have hO := srcOne g o c cp a9 z 4 Vb Hsb.out (HC.out.grown Hgb.out (Nat.le_refl _)) (by omega) hl (by omega) (by omega)
        go_wp2_with fail
        rw [HVb.out]
        refine hO.mono ?_
        rintro e w10 ⟨b10, rfl, hs10, hg10⟩
        have Hs10 := mkHid hs10
        have Hg10 := mkHid (gr_trans Hgb.out hg10)
        have HR10 : Hid (w10.heap[R]? = some (.cells #[.int .i64 0, .string ⟨#[]⟩, .string ⟨#[]⟩, .slice none 0 0, .slice none 0 0, .int .i64 0, .int .i64 0, .string ⟨#[]⟩] 26 (0, 0))) := (hg10.block R (hp_lt HRb.out) (by intro e; have := Option.some.inj e; omega)).trans HRb.out
        have HOp10 := mkHid (HOpb.out.gr hg10 hgl (by omega))
        clear x0 x1 x2 x5 x6 x7 xf xfb hO hs10 hg10 Hsb Hgb HRb HOpb HVb Hs9 Hg9 HR9 HOp9 Hq Hqa
        cases b10 with
        | false =>
          go_wp2
          go_meet
          case rel => exact ⟨Hg10.out, ⟨_, by omega, Hs10.out⟩, HR10.out, qb, Hqb.out, HOp10.out⟩
        | true =>
          have hM := srcMail g o c cp (a9 + 1) z w10 Hs10.out (HC.out.grown Hg10.out (Nat.le_refl _)) (by omega) hl hz
          go_wp2_with fail
          refine hM.mono ?_
          rintro e w11 ⟨mv, F, a11, rfl, hF, hFb, hFo, ha11, hs11, hg11⟩
          obtain ⟨mo, mc, rfl⟩ := hFo.shape
          have Hs11 := mkHid hs11
          have Hg11 := mkHid (gr_trans Hg10.out hg11)
          have HR11 : Hid (w11.heap[R]? = some (.cells #[.int .i64 0, .string ⟨#[]⟩, .string ⟨#[]⟩, .slice none 0 0, .slice none 0 0, .int .i64 0, .int .i64 0, .string ⟨#[]⟩] 26 (0, 0))) := (hg11.block R (hp_lt HR10.out) (by intro e; have := Option.some.inj e; omega)).trans HR10.out
          have HOp11 := mkHid (HOp10.out.gr hg11 hgl (by omega))
          have hW := specWriteHead mo F mc w11 hFo.fld (by omega) (fun f hf => by have := hFb f hf; omega)
          have hWz := Pl.hd_lenD F [] (by simp)
          obtain ⟨tw, htw⟩ : ∃ t : ByteArray, ⟨(Pl.hd [] F).toArray⟩ = t := ⟨_, rfl⟩
          have htwz : tw.size ≤ 100000 := by rw [← htw]; show (Pl.hd [] F).toArray.size ≤ _; rw [List.size_toArray]; exact hWz
          rw [htw] at hW
          have n0 : ¬ 9223372036854775807 < tw.size + 2 := by omega
          clear htw hWz hM hs11 hg11 Hs10 Hg10 HR10 HOp10 hFo hFb
          go_wp2_with fail
          refine hW.mono ?_
          rintro e w12 ⟨rfl, hb12⟩
          have Hs12 := mkHid (Hs11.out.below hb12)
          have Hg12 := mkHid (gr_trans Hg11.out (gr_below hb12))
          have HR12 : Hid (w12.heap[R]? = some (.cells #[.int .i64 0, .string ⟨#[]⟩, .string ⟨#[]⟩, .slice none 0 0, .slice none 0 0, .int .i64 0, .int .i64 0, .string ⟨#[]⟩] 26 (0, 0))) := (hb12.block R (hp_lt HR11.out)).trans HR11.out
          have HOp12 := mkHid (HOp11.out.below hb12)
          have hN := srcN g o c cp a11 z 30 w12 Hs12.out (HC.out.grown Hg12.out (Nat.le_refl _)) (by omega) hl (by omega) (by omega)
          clear hW hb12 Hs11 Hg11 HR11 HOp11
          go_wp2_with fail
          refine hN.mono ?_
          rintro e w13 ⟨v13, rfl, hv13, hs13, hg13⟩
          have Hs13 := mkHid hs13
          have Hg13 := mkHid (gr_trans Hg12.out hg13)
          have HR13 : Hid (w13.heap[R]? = some (.cells #[.int .i64 0, .string ⟨#[]⟩, .string ⟨#[]⟩, .slice none 0 0, .slice none 0 0, .int .i64 0, .int .i64 0, .string ⟨#[]⟩] 26 (0, 0))) := (hg13.block R (hp_lt HR12.out) (by intro e; have := Option.some.inj e; omega)).trans HR12.out
          have HOp13 := mkHid (HOp12.out.gr hg13 hgl (by omega))
          have hBy := srcBytes g o c cp (a11 + 1) z v13 w13 Hs13.out (HC.out.grown Hg13.out (Nat.le_refl _)) (by omega) hl (by omega)
          clear hN hs13 hg13 Hs12 Hg12 HR12 HOp12
          go_wp2_with fail
          refine hBy.mono ?_
          rintro e w14 ⟨t14, a14, rfl, hz14, ha14, hs14, hg14⟩
          have Hs14 := mkHid hs14
          have Hg14 := mkHid (gr_trans Hg13.out hg14)
          have HR14 : Hid (w14.heap[R]? = some (.cells #[.int .i64 0, .string ⟨#[]⟩, .string ⟨#[]⟩, .slice none 0 0, .slice none 0 0, .int .i64 0, .int .i64 0, .string ⟨#[]⟩] 26 (0, 0))) := (hg14.block R (hp_lt HR13.out) (by intro e; have := Option.some.inj e; omega)).trans HR13.out
          have HOp14 := mkHid (HOp13.out.gr hg14 hgl (by omega))
          have n1 : ¬ 9223372036854775807 < tw.size + 2 + t14.size := by omega
          obtain ⟨tm9, htm9⟩ : ∃ t, tw ++ (⟨#[13, 10]⟩ : ByteArray) ++ t14 = t := ⟨_, rfl⟩
          have hztm : tm9.size ≤ 110000 := by rw [← htm9, ByteArray.size_append, ByteArray.size_append]; show tw.size + 2 + t14.size ≤ 110000; omega
          have Htm9 := mkHid htm9
          clear hBy hs14 hg14 Hs13 Hg13 HR13 HOp13 htm9
          obtain ⟨x0, x1, x2, x5, x6, x7, xf⟩ := HOp14.out.cells
          have xfc := xf 7
          obtain ⟨Vc, hVc⟩ : ∃ V, w14.setCell ⟨Bk, 7, none⟩ (.string tm9) = V := ⟨_, rfl⟩
          have Hsc : Hid (Src Vc g o c.length cp a14 z) := by rw [← hVc]; exact Hs14.out.setC (by omega)
          have Hgc : Hid (w.grownBy Vc (some g)) := by rw [← hVc]; exact gr_setC Hg14.out hBkw
          have HRc : Hid (Vc.heap[R]? = some (.cells #[.int .i64 0, .string ⟨#[]⟩, .string ⟨#[]⟩, .slice none 0 0, .slice none 0 0, .int .i64 0, .int .i64 0, .string ⟨#[]⟩] 26 (0, 0))) := by rw [← hVc]; exact (set_other (by omega)).trans HR14.out
          have HOpc : Hid (OpAt w.heap.size Bk { qb with ms := tm9 } Vc) := by rw [← hVc]; exact HOp14.out.setMs _
          have Hqc : Hid (OpP.ok { qb with ms := tm9 } ∧ OpP.few { qb with ms := tm9 } 3) := by
            obtain ⟨⟨q1, q2, q3, q4, q5, q6, q7, q8, q9, q10⟩, qp⟩ := Hqb.out
            exact ⟨⟨q1, q2, q3, q4, q5, q6, q7, q8, q9, by show tm9.size ≤ 110000; omega⟩, qp⟩
          have HVc := mkHid hVc
          obtain ⟨qc, hqc⟩ : ∃ q9 : OpP, q9 = { qb with ms := tm9 } := ⟨_, rfl⟩
          rw [← hqc] at HOpc Hqc
          clear hVc hqc
          go_wp2
          rw [Htm9.out, HVc.out]
          go_meet
          case rel => exact ⟨Hgc.out, ⟨_, by omega, Hsc.out⟩, HRc.out, qc, Hqc.out, HOpc.out⟩
      · have hk4b : (q.k == 4) = false := beq_eq_false_iff_ne.2 hk4
        go_wp2
        go_meet
        case rel => exact ⟨Hg.out, ⟨aX, by omega, Hs.out⟩, HR.out, q, Hq.out, HOp.out⟩
    case rest =>
      clear x0 x1 x2 x5 x6 x7 xf Hs Hg HR HOp Hq haX
      obtain ⟨hgW, ⟨aX, haX, hsX⟩, hRX, q, hq, hOp⟩ := hcut.out
      clear hcut
      obtain ⟨x0, x1, x2, x5, x6, x7, xf⟩ := hOp.cells
      have Hs := mkHid hsX
      have Hg := mkHid hgW
      have HR := mkHid hRX
      have HOp := mkHid hOp
      have Hq := mkHid hq
      clear hsX hgW hRX hOp hq
      obtain ⟨Wd, hWd⟩ : ∃ V, V = wc := ⟨_, rfl⟩
      subst hWd
      go_upto_region 10 with fail
      go_cut [55] from 4 (fun s55 wc => ∃ b : Bool, s55 = .bool b ∧ Hid (OpSt w g o c.length cp z (a + 1700002) R Bk w.heap.size 3 wc))
      case first =>
        by_cases h5 : 5 ≤ q.k
        · by_cases h7 : q.k ≤ 7
          · have hO := srcOne g o c cp aX z 3 Wd Hs.out (HC.out.grown Hg.out (Nat.le_refl _)) (by omega) hl (by omega) (by omega)
            go_wp2_with fail
            refine hO.mono ?_
            rintro e w8 ⟨b8, rfl, hs8, hg8⟩
            have HS8 : Hid (OpSt w g o c.length cp z (a + 1700002) R Bk w.heap.size 3 w8) := ⟨gr_trans Hg.out hg8, ⟨_, by omega, hs8⟩, (hg8.block R (hp_lt HR.out) (by intro e; have := Option.some.inj e; omega)).trans HR.out, q, Hq.out, HOp.out.gr hg8 hgl (by omega)⟩
            clear hO hs8 hg8 x0 x1 x2 x5 x6 x7 xf Hs Hg HR HOp Hq
            go_wp2
            go_meet
            case rel => exact ⟨b8, rfl, HS8⟩
          · have HS8 : Hid (OpSt w g o c.length cp z (a + 1700002) R Bk w.heap.size 3 Wd) := ⟨Hg.out, ⟨aX, by omega, Hs.out⟩, HR.out, q, Hq.out, HOp.out⟩
            go_wp2
            go_meet
            case rel => exact ⟨false, rfl, HS8⟩
        · have HS8 : Hid (OpSt w g o c.length cp z (a + 1700002) R Bk w.heap.size 3 Wd) := ⟨Hg.out, ⟨aX, by omega, Hs.out⟩, HR.out, q, Hq.out, HOp.out⟩
          go_wp2
          go_meet
          case rel => exact ⟨false, rfl, HS8⟩
      case rest =>
        clear x0 x1 x2 x5 x6 x7 xf Hs Hg HR HOp Hq haX
        obtain ⟨b9, rfl, hcut2⟩ := hcut
        obtain ⟨hgW, ⟨aX, haX, hsX⟩, hRX, q, hq, hOp⟩ := hcut2.out
        clear hcut2
        obtain ⟨x0, x1, x2, x5, x6, x7, xf⟩ := hOp.cells
        have Hs := mkHid hsX
        have Hg := mkHid hgW
        have HR := mkHid hRX
        have HOp := mkHid hOp
        have Hq := mkHid hq
        clear hsX hgW hRX hOp hq
        obtain ⟨We, hWe⟩ : ∃ V, V = wc := ⟨_, rfl⟩
        subst hWe
        go_upto_if 55 with fail
        go_cut [] from 4 (fun wc => Hid (OpSt w g o c.length cp z (a + 1700004) R Bk w.heap.size 3 wc))
        case first =>
          cases b9 with
          | false =>
            go_wp2
            go_meet
            case rel => exact ⟨Hg.out, ⟨aX, by omega, Hs.out⟩, HR.out, q, Hq.out, HOp.out⟩
          | true =>
            have hN := srcN g o c cp aX z 12 We Hs.out (HC.out.grown Hg.out (Nat.le_refl _)) (by omega) hl (by omega) (by omega)
            go_wp2_with fail
            refine hN.mono ?_
            rintro e w8 ⟨v8, rfl, hv8, hs8, hg8⟩
            have Hs8 := mkHid hs8
            have Hg8 := mkHid (gr_trans Hg.out hg8)
            have HR8 : Hid (w8.heap[R]? = some (.cells #[.int .i64 0, .string ⟨#[]⟩, .string ⟨#[]⟩, .slice none 0 0, .slice none 0 0, .int .i64 0, .int .i64 0, .string ⟨#[]⟩] 26 (0, 0))) := (hg8.block R (hp_lt HR.out) (by intro e; have := Option.some.inj e; omega)).trans HR.out
            have HOp8 := mkHid (HOp.out.gr hg8 hgl (by omega))
            clear x0 x1 x2 x5 x6 x7 xf hN hs8 hg8 Hs Hg HR HOp
            obtain ⟨x0, x1, x2, x5, x6, x7, xf⟩ := HOp8.out.cells
            have xfa := xf 6
            obtain ⟨Va, hVa⟩ : ∃ V, w8.setCell ⟨Bk, 6, none⟩ (.int .i64 (v8 : Int)) = V := ⟨_, rfl⟩
            have Hsa : Hid (Src Va g o c.length cp (aX + 1) z) := by rw [← hVa]; exact Hs8.out.setC (by omega)
            have Hga : Hid (w.grownBy Va (some g)) := by rw [← hVa]; exact gr_setC Hg8.out hBkw
            have HRa : Hid (Va.heap[R]? = some (.cells #[.int .i64 0, .string ⟨#[]⟩, .string ⟨#[]⟩, .slice none 0 0, .slice none 0 0, .int .i64 0, .int .i64 0, .string ⟨#[]⟩] 26 (0, 0))) := by rw [← hVa]; exact (set_other (by omega)).trans HR8.out
            have HOpa : Hid (OpAt w.heap.size Bk { q with md := (v8 : Int) } Va) := by rw [← hVa]; exact HOp8.out.setMd _
            have Hqa : Hid (OpP.ok { q with md := (v8 : Int) } ∧ OpP.few { q with md := (v8 : Int) } 3) := by
              obtain ⟨⟨q1, q2, q3, q4, q5, q6, q7, q8, q9, q10⟩, qp⟩ := Hq.out
              exact ⟨⟨q1, q2, q3, q4, q5, q6, q7, q8, ⟨by show (-1 : Int) ≤ (v8 : Int); omega, by show (v8 : Int) ≤ 5000000000; omega⟩, q10⟩, qp⟩
            have HVa := mkHid hVa
            obtain ⟨qa, hqa⟩ : ∃ q9 : OpP, q9 = { q with md := (v8 : Int) } := ⟨_, rfl⟩
            rw [← hqa] at HOpa Hqa
            clear hVa hqa
            go_wp2
            rw [HVa.out]
            go_meet
            case rel => exact ⟨Hga.out, ⟨_, by omega, Hsa.out⟩, HRa.out, qa, Hqa.out, HOpa.out⟩
        case rest =>
          clear x0 x1 x2 x5 x6 x7 xf Hs Hg HR HOp Hq haX
          obtain ⟨hgW, ⟨aX, haX, hsX⟩, hRX, q, hq, hOp⟩ := hcut.out
          clear hcut
          obtain ⟨x0, x1, x2, x5, x6, x7, xf⟩ := hOp.cells
          have Hs := mkHid hsX
          have Hg := mkHid hgW
          have HR := mkHid hRX
          have HOp := mkHid hOp
          have Hq := mkHid hq
          clear hsX hgW hRX hOp hq
          obtain ⟨Wf, hWf⟩ : ∃ V, V = wc := ⟨_, rfl⟩
          subst hWf
          have hO := srcOne g o c cp aX z 25 Wf Hs.out (HC.out.grown Hg.out (Nat.le_refl _)) (by omega) hl (by omega) (by omega)
          go_wp2_with fail
          refine hO.mono ?_
          rintro e w8 ⟨b8, rfl, hs8, hg8⟩
          have Hs8 := mkHid hs8
          have Hg8 := mkHid (gr_trans Hg.out hg8)
          have HR8 : Hid (w8.heap[R]? = some (.cells #[.int .i64 0, .string ⟨#[]⟩, .string ⟨#[]⟩, .slice none 0 0, .slice none 0 0, .int .i64 0, .int .i64 0, .string ⟨#[]⟩] 26 (0, 0))) := (hg8.block R (hp_lt HR.out) (by intro e; have := Option.some.inj e; omega)).trans HR.out
          have HOp8 := mkHid (HOp.out.gr hg8 hgl (by omega))
          clear x0 x1 x2 x5 x6 x7 xf hO hs8 hg8 Hs Hg HR HOp
          go_upto_if 60 with fail
          go_cut [] from 4 (fun wc => Hid (OpSt w g o c.length cp z (a + 1700100) R Bk w.heap.size 4 wc))
          case first =>
            cases b8 with
            | false =>
              go_wp2
              go_meet
              case rel => exact ⟨Hg8.out, ⟨_, by omega, Hs8.out⟩, HR8.out, q, ⟨Hq.out.1, Hq.out.2.up (by omega)⟩, HOp8.out⟩
            | true =>
              have hN := srcN g o c cp (aX + 1) z 6 w8 Hs8.out (HC.out.grown Hg8.out (Nat.le_refl _)) (by omega) hl (by omega) (by omega)
              go_wp2_with fail
              refine hN.mono ?_
              rintro e w9 ⟨v9, rfl, hv9, hs9, hg9⟩
              have Hs9 := mkHid hs9
              have Hg9 := mkHid (gr_trans Hg8.out hg9)
              have HR9 : Hid (w9.heap[R]? = some (.cells #[.int .i64 0, .string ⟨#[]⟩, .string ⟨#[]⟩, .slice none 0 0, .slice none 0 0, .int .i64 0, .int .i64 0, .string ⟨#[]⟩] 26 (0, 0))) := (hg9.block R (hp_lt HR8.out) (by intro e; have := Option.some.inj e; omega)).trans HR8.out
              have HOp9 := mkHid (HOp8.out.gr hg9 hgl (by omega))
              clear hN hs9 hg9 Hs8 Hg8 HR8 HOp8
              by_cases hvk : v9 = 0
              · have e0 : ((v9 : Int) == 0) = true := by rw [hvk]; rfl
                clear hvk
                have hbA : ∀ cs, Below w9.heap.size w9 (w9.alloc (.cells cs 2)) := fun cs => (Below.refl _ _).alloc (Nat.le_refl _) _
                have hN := fun cs => srcN g o c cp (aX + 1 + 1) z 3 (w9.alloc (.cells cs 2)) (Hs9.out.below (hbA cs)) (HC.out.grown (gr_trans Hg9.out (gr_below (hbA cs))) (Nat.le_refl _)) (by omega) hl (by omega) (by omega)
                have hgl9 : g < w9.heap.size := Hs9.out.lt
                go_wp2_with fail
                refine (hN _).mono ?_
                rintro e w20 ⟨v20, rfl, hv20, hs20, hg20⟩
                obtain ⟨k20, hc20, hk20a, hk20b⟩ := num_at2 (lo := -1) (hi := 10) hg20 hgl9 (show v20 < 3 by omega) (by decide)
                have hl20 : v20 < 3 := by omega
                have hg21 := gr_trans (gr_below (hbA _)) hg20
                have Hs20 := mkHid hs20
                have Hg20 := mkHid (gr_trans Hg9.out hg21)
                have HR20 : Hid (w20.heap[R]? = some (.cells #[.int .i64 0, .string ⟨#[]⟩, .string ⟨#[]⟩, .slice none 0 0, .slice none 0 0, .int .i64 0, .int .i64 0, .string ⟨#[]⟩] 26 (0, 0))) := (hg21.block R (hp_lt HR9.out) (by intro e; have := Option.some.inj e; omega)).trans HR9.out
                have HOp20 := mkHid (HOp9.out.gr hg21 hgl (by omega))
                clear hN hs20 hg20 hg21 hbA hgl9 Hs9 Hg9 HR9 HOp9
                obtain ⟨x0, x1, x2, x5, x6, x7, xf⟩ := HOp20.out.cells
                have xfa := xf 0
                obtain ⟨Va, hVa⟩ : ∃ V, w20.setCell ⟨Bk, 0, none⟩ (.int .i64 k20) = V := ⟨_, rfl⟩
                have Hsa : Hid (Src Va g o c.length cp (aX + 1 + 1 + 1) z) := by rw [← hVa]; exact Hs20.out.setC (by omega)
                have Hga : Hid (w.grownBy Va (some g)) := by rw [← hVa]; exact gr_setC Hg20.out hBkw
                have HRa : Hid (Va.heap[R]? = some (.cells #[.int .i64 0, .string ⟨#[]⟩, .string ⟨#[]⟩, .slice none 0 0, .slice none 0 0, .int .i64 0, .int .i64 0, .string ⟨#[]⟩] 26 (0, 0))) := by rw [← hVa]; exact (set_other (by omega)).trans HR20.out
                have HOpa : Hid (OpAt w.heap.size Bk { q with k := k20 } Va) := by rw [← hVa]; exact HOp20.out.setK _
                have Hqa : Hid (OpP.ok { q with k := k20 } ∧ OpP.few { q with k := k20 } 3) := by
                  obtain ⟨⟨q1, q2, q3, q4, q5, q6, q7, q8, q9, q10⟩, qp⟩ := Hq.out
                  exact ⟨⟨⟨by show (-10 : Int) ≤ k20; omega, by show k20 ≤ 100; omega⟩, q2, q3, q4, q5, q6, q7, q8, q9, q10⟩, qp⟩
                have HVa := mkHid hVa
                obtain ⟨qa, hqa⟩ : ∃ q9 : OpP, q9 = { q with k := k20 } := ⟨_, rfl⟩
                rw [← hqa] at HOpa Hqa
                clear hVa hqa
                go_wp2
                rw [HVa.out]
                go_meet
                case rel => exact ⟨Hga.out, ⟨_, by omega, Hsa.out⟩, HRa.out, qa, ⟨Hqa.out.1, Hqa.out.2.up (by omega)⟩, HOpa.out⟩
              by_cases hvk : v9 = 1
              · have e0 : ((v9 : Int) == 0) = false := beq_eq_false_iff_ne.2 (by omega)
                have e1 : ((v9 : Int) == 1) = true := by rw [hvk]; rfl
                clear hvk
                obtain ⟨uo, fo, uc, fc, hB9, hU9, hP9⟩ := HOp9.out
                have HBq := mkHid hB9
                have HU9 := mkHid hU9
                have HP9 := mkHid hP9
                have HCW : Hid (Code g w9 o c) := HC.out.grown Hg9.out (Nat.le_refl _)
                have hgr0 : g < w9.heap.size := Hs9.out.lt
                have hBk9 : Bk < w9.heap.size := hp_lt hB9
                have HB4 : Hid (w9.cell? ⟨Bk, 4, none⟩ = some (.slice fo q.P.length fc)) := by show _ = _; simp [World.cell?, hB9]
                have HG : Hid (GoneBy w9 g o c.length cp (aX + 1 + 1) z 0 w9.drew) := ⟨gr_below (Below.refl _ _).drew, aX + 1 + 1, by omega, Hs9.out.below (Below.refl _ _).drew⟩
                have hPl : q.P.length ≤ 3 := Hq.out.2.1
                clear hB9 hU9 hP9
                go_wp2
                refine wp_region_any (by kernel_rfl) ?_
                refine wpAny_phase 8 3 #[true, true, true, true, true, true, true, true, false, false, false] ofDst (fun x => rgActF [_, _, _, _, _, _, _, _, _, _, _, _, _, _, _, _, _, _, _, _, _, _, _, _, _, _, _, _, _, _, _, _, _, _, _, _, _, _, _, _, _, _, _, _, _, _, _, _, _, _, _, _, _, _, _, _, _, _, _, _, _, _, _, _, _, _, _, _, _, _, _, _, _] [x 73, x 74, x 75, x 76, x 77, x 78, x 79, x 80] [_, _, _, _, _, _, _, _, _, _, _, _, _, _, _, _, _, _, _, _, _, _, _, _, _]) (ofFact (.slice fo q.P.length fc) Bk g w9.heap.size) (fun k w => GoneBy w9 g o c.length cp (aX + 1 + 1) z k w) (fun w w' => w.grownBy w' (some g)) rfl rfl (by decide) rfl (by kernel_rfl) (by kernel_rfl) ?_ (ofFact.gr hgr0) ?hend ?hstep _ _ 0 (fun j => match j with | 73 => u73 | 74 => u74 | 75 => u75 | 76 => u76 | 77 => u77 | 78 => u78 | 79 => u79 | 80 => u80 | _ => undef) _ rfl rfl rfl (by intro j hj; simp [Array.getD]) ?_ HG.out ?_
                · intro i j hi hj hne
                  have e1 : ∀ q, q < 8 → ∀ r, r < 8 → q ≠ r → ofDst q ≠ ofDst r := by decide
                  exact e1 j hj i hi hne
                case hend =>
                  intro x wq hG hf
                  have f1 : x 74 = .slice fo q.P.length fc := hf 1 (by decide)
                  obtain ⟨b, t, e4, hb, hbk, hft⟩ := hf 7 (by decide)
                  have e4' : x 80 = .slice (some ⟨b, 0, none⟩) 1 1 := e4
                  obtain ⟨hgq, a2, ha2, hs2⟩ := hG
                  have hPq : OwnX w.heap.size (.slice fo q.P.length fc) q.P wq := HP9.out.grG hgq hgl
                  have hUq : OwnN w.heap.size (.slice uo q.U.length uc) q.U wq := HU9.out.grG hgq hgl
                  have hBq := (hgq.block Bk hBk9 (by intro e; have := Option.some.inj e; omega)).trans HBq.out
                  have hRq := (hgq.block R (hp_lt HR9.out) (by intro e; have := Option.some.inj e; omega)).trans HR9.out
                  have hGq := gr_trans Hg9.out hgq
                  have hsq : w.heap.size ≤ wq.heap.size := hGq.size
                  clear hf e4
                  refine wpAny_ready (rs := [8]) (by kernel_rfl) (by simp) ?_
                  refine AllReady.cons rfl (fun K hK => ?_) AllReady.nil
                  rw [if_pos (by rfl)]
                  refine opAppXe _ _ rfl w.heap.size (.slice fo q.P.length fc) q.P f1 hPq t b 1 e4' hbk (by omega) hsq ?_
                  intro v' w' hO' hG'
                  refine hK _ _ ?_
                  clear hK K
                  have hnB := row_not_block hPq hBq (by decide)
                  have hnR := row_not_block hPq hRq (by decide)
                  have hB3 := (hG'.block Bk (hp_lt hBq) (fun e => hnB Bk e.symm rfl)).trans hBq
                  have hR3 := (hG'.block R (hp_lt hRq) (fun e => hnR R e.symm rfl)).trans hRq
                  have hU3 : OwnN w.heap.size (.slice uo q.U.length uc) q.U w' := World.ownsRow.kept hUq hG' (own_apartA (show wq.ownsRow w.heap.size 2 1 _ _ _ from hUq) (show wq.ownsRow w.heap.size 9 1 _ _ _ from hPq) (by decide))
                  have hs3 : Src w' g o c.length cp a2 z := hs2.row hG' (fun k hk => by have := (World.ownsRow.lt hPq k hk).1; omega)
                  have hg3 : w.grownBy w' (some g) := gr_row hGq hG' (fun k hk => (World.ownsRow.lt hPq k hk).1)
                  obtain ⟨o2, c2, rfl⟩ := hO'.shape
                  have hc3 : w'.cell? ⟨Bk, 4, none⟩ = some (.slice fo q.P.length fc) := by simp [World.cell?, hB3]
                  have hf3 : w'.frozen? ⟨Bk, 4, none⟩ = false := by simp [World.frozen?, hB3]
                  have HSf : Hid (OpSt w g o c.length cp z (a + 1700100) R Bk w.heap.size 4 (w'.setCell ⟨Bk, 4, none⟩ (.slice o2 (q.P ++ [t]).length c2))) := by
                    refine ⟨gr_setC hg3 hBkw, ⟨a2, by omega, hs3.setC (by omega)⟩, (set_other (by omega)).trans hR3, { q with P := q.P ++ [t] }, ?_, uo, o2, uc, c2, by simp [World.setCell, Array.getElem?_modify, hB3], row_stay hU3 fun k hk => set_other (row_not_block hU3 hB3 (by decide) k hk), row_stay hO' fun k hk => set_other (row_not_block hO' hB3 (by decide) k hk)⟩
                    obtain ⟨⟨q1, q2, q3, q4, q5, q6, q7, q8, q9, q10⟩, qp⟩ := Hq.out
                    have hl9 : (q.P ++ [t]).length ≤ 4 := by rw [List.length_append]; show q.P.length + 1 ≤ 4; omega
                    refine ⟨⟨q1, q2, q3, q4, q5, by show (q.P ++ [t]).length ≤ 10; omega, fun u hu => ?_, q8, q9, q10⟩, ⟨hl9, qp.2⟩⟩
                    rcases List.mem_append.1 hu with hu | hu
                    · exact q7 u hu
                    · simp only [List.mem_cons, List.not_mem_nil, or_false] at hu
                      subst hu
                      omega
                  obtain ⟨n2, hn2⟩ : ∃ n, (q.P ++ [t]).length = n := ⟨_, rfl⟩
                  rw [hn2] at HSf
                  rw [hn2]
                  clear hn2 hO' hG' hB3 hR3 hU3 hs3 hg3 hPq hUq hBq hRq hGq hs2 hgq hbk hnB hnR HBq HU9 HP9 HG HB4 Hs9 Hg9 HR9 HOp9 Hq
                  show wpAny _ _ _ _ 2 _ (rgActF [_, _, _, _, _, _, _, _, _, _, _, _, _, _, _, _, _, _, _, _, _, _, _, _, _, _, _, _, _, _, _, _, _, _, _, _, _, _, _, _, _, _, _, _, _, _, _, _, _, _, _, _, _, _, _, _, _, _, _, _, _, _, _, _, _, _, _, _, _, _, _, _, _] [x 73, x 74, x 75, x 76, x 77, x 78, x 79, x 80] (.slice o2 n2 c2 :: [_, _, _, _, _, _, _, _, _, _, _, _, _, _, _, _, _, _, _, _, _, _, _, _])) _
                  generalize x 73 = y73
                  generalize x 74 = y74
                  generalize x 75 = y75
                  generalize x 76 = y76
                  generalize x 77 = y77
                  generalize x 78 = y78
                  generalize x 79 = y79
                  generalize x 80 = y80
                  go_simp
                  refine wpAny_ready (rs := [9]) (by kernel_rfl) (by simp) ?_
                  refine AllReady.cons rfl (fun K hK => ?_) AllReady.nil
                  go_simp
                  refine hK _ _ ?_
                  clear hK K
                  go_simp
                  refine wpAny_ready (rs := [10]) (by kernel_rfl) (by simp) ?_
                  refine AllReady.cons rfl (fun K hK => ?_) AllReady.nil
                  go_simp
                  refine hK _ _ ?_
                  clear hK K
                  go_simp
                  refine wpAny_done (by kernel_rfl) ?_ _
                  go_simp
                  go_wp2
                  go_meet
                  case rel => exact HSf
                case hstep =>
                  intro k2 x L wr i hil hkl hG hi hf
                  rcases (show i = 0 ∨ i = 1 ∨ i = 2 ∨ i = 3 ∨ i = 4 ∨ i = 5 ∨ i = 6 ∨ i = 7 by omega) with rfl | rfl | rfl | rfl | rfl | rfl | rfl | rfl
                  · clear hi hf
                    refine wpOp_step rfl (fun K hK => ?_)
                    go_simp
                    exact hK _ _ ⟨.pointer (some ⟨Bk, 4, none⟩), by simp [put, ofDst], rfl, gr_refl _ _, hG.still (Below.refl _ _)⟩
                  · have e0 : x 73 = .pointer (some ⟨Bk, 4, none⟩) := hf 0 (by omega) (ready_dep hi rfl 0 (by kernel_rfl))
                    clear hi hf
                    have hcel : wr.cell? ⟨Bk, 4, none⟩ = some (.slice fo q.P.length fc) := gr_cell hG.1 (show Bk ≠ g by omega) HB4.out
                    refine wpOp_step rfl (fun K hK => ?_)
                    go_simp
                    exact hK _ _ ⟨.slice fo q.P.length fc, by simp [put, ofDst, e0], rfl, gr_refl _ _, hG.still (Below.refl _ _)⟩
                  · clear hi hf
                    refine wpOp_step rfl (fun K hK => ?_)
                    go_simp
                    have hbb : ∀ cs, Below wr.heap.size wr (wr.alloc (.cells cs 9)) := fun cs => (Below.refl _ _).alloc (Nat.le_refl _) _
                    refine hK _ _ ⟨.slice (some ⟨wr.heap.size, 0, none⟩) 4 4, by simp [put, ofDst], ⟨_, rfl, hG.1.size, ?_⟩, gr_below (hbb _), hG.still (hbb _)⟩
                    intro k hk
                    exact tabM_get (by simpa using hk) (by decide)
                  · clear hi hf
                    refine wpOp_step rfl (fun K hK => ?_)
                    go_simp
                    exact hK _ _ ⟨.pointer (some ⟨g, 0, none⟩), by simp [put, ofDst], rfl, gr_refl _ _, hG.still (Below.refl _ _)⟩
                  · have e0 : x 76 = .pointer (some ⟨g, 0, none⟩) := hf 3 (by omega) (ready_dep hi rfl 3 (by kernel_rfl))
                    clear hi hf
                    obtain ⟨hgr, a1, ha1, hs1⟩ := hG
                    have hN := srcN g o c cp a1 z 4 wr hs1 (HCW.out.grown hgr (Nat.le_refl _)) (by omega) hl (by omega) (by omega)
                    refine wpOp_step rfl (fun K hK => ?_)
                    go_simp
                    refine hN.mono ?_
                    rintro e w2 ⟨v, rfl, hv, hs2, hg2⟩
                    go_simp
                    exact hK _ _ ⟨.int .i64 (v : Int), by simp [put, ofDst, e0], ⟨v, rfl, Nat.zero_le _, by omega⟩, hg2, gr_trans hgr hg2, a1 + 1, by omega, hs2⟩
                  · have f0 := hf 2 (by omega) (ready_dep hi rfl 2 (by kernel_rfl))
                    have f2 := hf 4 (by omega) (ready_dep hi rfl 4 (by kernel_rfl))
                    clear hi hf
                    obtain ⟨b, e0, hb, ht⟩ := f0
                    obtain ⟨k2, e1, -, hk⟩ := f2
                    obtain ⟨t, hc, hts⟩ := ht k2 hk
                    have hk3 : (k2 : Int) < 4 := by omega
                    have e0' : x 75 = .slice (some ⟨b, 0, none⟩) 4 4 := e0
                    have e1' : x 77 = .int .i64 k2 := e1
                    clear e0 e1 ht
                    refine wpOp_step rfl (fun K hK => ?_)
                    go_simp
                    exact hK _ _ ⟨.pointer (some ⟨b, k2, none⟩), by simp [put, ofDst, e0', e1'], ⟨b, k2, t, rfl, hb, hc, hts⟩, gr_refl _ _, hG.still (Below.refl _ _)⟩
                  · have f3 := hf 5 (by omega) (ready_dep hi rfl 5 (by kernel_rfl))
                    clear hi hf
                    obtain ⟨b, k2, t, e0, hb, hc, hts⟩ := f3
                    have e0' : x 78 = .pointer (some ⟨b, k2, none⟩) := e0
                    clear e0
                    refine wpOp_step rfl (fun K hK => ?_)
                    go_simp
                    exact hK _ _ ⟨.string t, by simp [put, ofDst, e0'], ⟨t, rfl, hts⟩, gr_refl _ _, hG.still (Below.refl _ _)⟩
                  · have f3 := hf 6 (by omega) (ready_dep hi rfl 6 (by kernel_rfl))
                    clear hi hf
                    obtain ⟨t, e0, ht⟩ := f3
                    have e0' : x 79 = .string t := e0
                    clear e0
                    refine wpOp_step rfl (fun K hK => ?_)
                    go_simp
                    have hbb : ∀ cs, Below wr.heap.size wr (wr.alloc (.cells cs 9)) := fun cs => (Below.refl _ _).alloc (Nat.le_refl _) _
                    exact hK _ _ ⟨.slice (some ⟨wr.heap.size, 0, none⟩) 1 1, by simp [put, ofDst, e0'], ⟨wr.heap.size, t, rfl, hG.1.size, hp_alloc _ _, ht⟩, gr_below (hbb _), hG.still (hbb _)⟩
                · intro k2 j hk2
                  simp [Array.getD] at hk2
                · intro j hj hd
                  simp [Array.getD] at hd
              by_cases hvk : v9 = 2
              · have e0 : ((v9 : Int) == 0) = false := beq_eq_false_iff_ne.2 (by omega)
                have e1 : ((v9 : Int) == 1) = false := beq_eq_false_iff_ne.2 (by omega)
                have e2 : ((v9 : Int) == 2) = true := by rw [hvk]; rfl
                clear hvk
                have hbA : ∀ cs, Below w9.heap.size w9 (w9.alloc (.cells cs 9)) := fun cs => (Below.refl _ _).alloc (Nat.le_refl _) _
                have hN := fun cs => srcN g o c cp (aX + 1 + 1) z 4 (w9.alloc (.cells cs 9)) (Hs9.out.below (hbA cs)) (HC.out.grown (gr_trans Hg9.out (gr_below (hbA cs))) (Nat.le_refl _)) (by omega) hl (by omega) (by omega)
                have hgl9 : g < w9.heap.size := Hs9.out.lt
                go_wp2_with fail
                refine (hN _).mono ?_
                rintro e w20 ⟨v20, rfl, hv20, hs20, hg20⟩
                obtain ⟨t20, hc20, hz20⟩ := table_at (M := 4) hg20 hgl9 (show v20 < 4 by omega) (by decide)
                have hl20 : v20 < 4 := by omega
                have hg21 := gr_trans (gr_below (hbA _)) hg20
                have Hs20 := mkHid hs20
                have Hg20 := mkHid (gr_trans Hg9.out hg21)
                have HR20 : Hid (w20.heap[R]? = some (.cells #[.int .i64 0, .string ⟨#[]⟩, .string ⟨#[]⟩, .slice none 0 0, .slice none 0 0, .int .i64 0, .int .i64 0, .string ⟨#[]⟩] 26 (0, 0))) := (hg21.block R (hp_lt HR9.out) (by intro e; have := Option.some.inj e; omega)).trans HR9.out
                have HOp20 := mkHid (HOp9.out.gr hg21 hgl (by omega))
                clear hN hs20 hg20 hg21 hbA hgl9 Hs9 Hg9 HR9 HOp9
                obtain ⟨x0, x1, x2, x5, x6, x7, xf⟩ := HOp20.out.cells
                have xfa := xf 1
                obtain ⟨Va, hVa⟩ : ∃ V, w20.setCell ⟨Bk, 1, none⟩ (.string t20) = V := ⟨_, rfl⟩
                have Hsa : Hid (Src Va g o c.length cp (aX + 1 + 1 + 1) z) := by rw [← hVa]; exact Hs20.out.setC (by omega)
                have Hga : Hid (w.grownBy Va (some g)) := by rw [← hVa]; exact gr_setC Hg20.out hBkw
                have HRa : Hid (Va.heap[R]? = some (.cells #[.int .i64 0, .string ⟨#[]⟩, .string ⟨#[]⟩, .slice none 0 0, .slice none 0 0, .int .i64 0, .int .i64 0, .string ⟨#[]⟩] 26 (0, 0))) := by rw [← hVa]; exact (set_other (by omega)).trans HR20.out
                have HOpa : Hid (OpAt w.heap.size Bk { q with bx := t20 } Va) := by rw [← hVa]; exact HOp20.out.setBx _
                have Hqa : Hid (OpP.ok { q with bx := t20 } ∧ OpP.few { q with bx := t20 } 3) := by
                  obtain ⟨⟨q1, q2, q3, q4, q5, q6, q7, q8, q9, q10⟩, qp⟩ := Hq.out
                  exact ⟨⟨q1, by show t20.size ≤ 300; omega, q3, q4, q5, q6, q7, q8, q9, q10⟩, qp⟩
                have HVa := mkHid hVa
                obtain ⟨qa, hqa⟩ : ∃ q9 : OpP, q9 = { q with bx := t20 } := ⟨_, rfl⟩
                rw [← hqa] at HOpa Hqa
                clear hVa hqa
                go_wp2
                rw [HVa.out]
                go_meet
                case rel => exact ⟨Hga.out, ⟨_, by omega, Hsa.out⟩, HRa.out, qa, ⟨Hqa.out.1, Hqa.out.2.up (by omega)⟩, HOpa.out⟩
              by_cases hvk : v9 = 3
              · have e0 : ((v9 : Int) == 0) = false := beq_eq_false_iff_ne.2 (by omega)
                have e1 : ((v9 : Int) == 1) = false := beq_eq_false_iff_ne.2 (by omega)
                have e2 : ((v9 : Int) == 2) = false := beq_eq_false_iff_ne.2 (by omega)
                have e3 : ((v9 : Int) == 3) = true := by rw [hvk]; rfl
                clear hvk
                obtain ⟨x0, x1, x2, x5, x6, x7, xf⟩ := HOp9.out.cells
                have xfa := xf 6
                obtain ⟨Va, hVa⟩ : ∃ V, w9.setCell ⟨Bk, 6, none⟩ (.int .i64 (-1)) = V := ⟨_, rfl⟩
                have Hsa : Hid (Src Va g o c.length cp (aX + 1 + 1) z) := by rw [← hVa]; exact Hs9.out.setC (by omega)
                have Hga : Hid (w.grownBy Va (some g)) := by rw [← hVa]; exact gr_setC Hg9.out hBkw
                have HRa : Hid (Va.heap[R]? = some (.cells #[.int .i64 0, .string ⟨#[]⟩, .string ⟨#[]⟩, .slice none 0 0, .slice none 0 0, .int .i64 0, .int .i64 0, .string ⟨#[]⟩] 26 (0, 0))) := by rw [← hVa]; exact (set_other (by omega)).trans HR9.out
                have HOpa : Hid (OpAt w.heap.size Bk { q with md := (-1 : Int) } Va) := by rw [← hVa]; exact HOp9.out.setMd _
                have Hqa : Hid (OpP.ok { q with md := (-1 : Int) } ∧ OpP.few { q with md := (-1 : Int) } 3) := by
                  obtain ⟨⟨q1, q2, q3, q4, q5, q6, q7, q8, q9, q10⟩, qp⟩ := Hq.out
                  exact ⟨⟨q1, q2, q3, q4, q5, q6, q7, q8, ⟨by show (-1 : Int) ≤ -1; decide, by show (-1 : Int) ≤ 5000000000; decide⟩, q10⟩, qp⟩
                have HVa := mkHid hVa
                obtain ⟨qa, hqa⟩ : ∃ q9 : OpP, q9 = { q with md := (-1 : Int) } := ⟨_, rfl⟩
                rw [← hqa] at HOpa Hqa
                clear hVa hqa
                go_wp2
                rw [HVa.out]
                go_meet
                case rel => exact ⟨Hga.out, ⟨_, by omega, Hsa.out⟩, HRa.out, qa, ⟨Hqa.out.1, Hqa.out.2.up (by omega)⟩, HOpa.out⟩
              by_cases hvk : v9 = 4
              · have e0 : ((v9 : Int) == 0) = false := beq_eq_false_iff_ne.2 (by omega)
                have e1 : ((v9 : Int) == 1) = false := beq_eq_false_iff_ne.2 (by omega)
                have e2 : ((v9 : Int) == 2) = false := beq_eq_false_iff_ne.2 (by omega)
                have e3 : ((v9 : Int) == 3) = false := beq_eq_false_iff_ne.2 (by omega)
                have e4 : ((v9 : Int) == 4) = true := by rw [hvk]; rfl
                clear hvk
                obtain ⟨x0, x1, x2, x5, x6, x7, xf⟩ := HOp9.out.cells
                have xfa := xf 5
                obtain ⟨Va, hVa⟩ : ∃ V, w9.setCell ⟨Bk, 5, none⟩ (.int .i64 (-1)) = V := ⟨_, rfl⟩
                have Hsa : Hid (Src Va g o c.length cp (aX + 1 + 1) z) := by rw [← hVa]; exact Hs9.out.setC (by omega)
                have Hga : Hid (w.grownBy Va (some g)) := by rw [← hVa]; exact gr_setC Hg9.out hBkw
                have HRa : Hid (Va.heap[R]? = some (.cells #[.int .i64 0, .string ⟨#[]⟩, .string ⟨#[]⟩, .slice none 0 0, .slice none 0 0, .int .i64 0, .int .i64 0, .string ⟨#[]⟩] 26 (0, 0))) := by rw [← hVa]; exact (set_other (by omega)).trans HR9.out
                have HOpa : Hid (OpAt w.heap.size Bk { q with tm := (-1 : Int) } Va) := by rw [← hVa]; exact HOp9.out.setTm _
                have Hqa : Hid (OpP.ok { q with tm := (-1 : Int) } ∧ OpP.few { q with tm := (-1 : Int) } 3) := by
                  obtain ⟨⟨q1, q2, q3, q4, q5, q6, q7, q8, q9, q10⟩, qp⟩ := Hq.out
                  exact ⟨⟨q1, q2, q3, q4, q5, q6, q7, ⟨by show (-1 : Int) ≤ -1; decide, by show (-1 : Int) ≤ 300000000000; decide⟩, q9, q10⟩, qp⟩
                have HVa := mkHid hVa
                obtain ⟨qa, hqa⟩ : ∃ q9 : OpP, q9 = { q with tm := (-1 : Int) } := ⟨_, rfl⟩
                rw [← hqa] at HOpa Hqa
                clear hVa hqa
                go_wp2
                rw [HVa.out]
                go_meet
                case rel => exact ⟨Hga.out, ⟨_, by omega, Hsa.out⟩, HRa.out, qa, ⟨Hqa.out.1, Hqa.out.2.up (by omega)⟩, HOpa.out⟩
              by_cases hvk : v9 = 5
              · have e0 : ((v9 : Int) == 0) = false := beq_eq_false_iff_ne.2 (by omega)
                have e1 : ((v9 : Int) == 1) = false := beq_eq_false_iff_ne.2 (by omega)
                have e2 : ((v9 : Int) == 2) = false := beq_eq_false_iff_ne.2 (by omega)
                have e3 : ((v9 : Int) == 3) = false := beq_eq_false_iff_ne.2 (by omega)
                have e4 : ((v9 : Int) == 4) = false := beq_eq_false_iff_ne.2 (by omega)
                have e5 : ((v9 : Int) == 5) = true := by rw [hvk]; rfl
                clear hvk
                have hbA : ∀ cs, Below w9.heap.size w9 (w9.alloc (.cells cs 9)) := fun cs => (Below.refl _ _).alloc (Nat.le_refl _) _
                have hN := fun cs => srcN g o c cp (aX + 1 + 1) z 3 (w9.alloc (.cells cs 9)) (Hs9.out.below (hbA cs)) (HC.out.grown (gr_trans Hg9.out (gr_below (hbA cs))) (Nat.le_refl _)) (by omega) hl (by omega) (by omega)
                have hgl9 : g < w9.heap.size := Hs9.out.lt
                go_wp2_with fail
                refine (hN _).mono ?_
                rintro e w20 ⟨v20, rfl, hv20, hs20, hg20⟩
                obtain ⟨t20, hc20, hz20⟩ := table_at (M := 5) hg20 hgl9 (show v20 < 3 by omega) (by decide)
                have hl20 : v20 < 3 := by omega
                have hg21 := gr_trans (gr_below (hbA _)) hg20
                have Hs20 := mkHid hs20
                have Hg20 := mkHid (gr_trans Hg9.out hg21)
                have HR20 : Hid (w20.heap[R]? = some (.cells #[.int .i64 0, .string ⟨#[]⟩, .string ⟨#[]⟩, .slice none 0 0, .slice none 0 0, .int .i64 0, .int .i64 0, .string ⟨#[]⟩] 26 (0, 0))) := (hg21.block R (hp_lt HR9.out) (by intro e; have := Option.some.inj e; omega)).trans HR9.out
                have HOp20 := mkHid (HOp9.out.gr hg21 hgl (by omega))
                clear hN hs20 hg20 hg21 hbA hgl9 Hs9 Hg9 HR9 HOp9
                obtain ⟨x0, x1, x2, x5, x6, x7, xf⟩ := HOp20.out.cells
                have xfa := xf 2
                obtain ⟨Va, hVa⟩ : ∃ V, w20.setCell ⟨Bk, 2, none⟩ (.string t20) = V := ⟨_, rfl⟩
                have Hsa : Hid (Src Va g o c.length cp (aX + 1 + 1 + 1) z) := by rw [← hVa]; exact Hs20.out.setC (by omega)
                have Hga : Hid (w.grownBy Va (some g)) := by rw [← hVa]; exact gr_setC Hg20.out hBkw
                have HRa : Hid (Va.heap[R]? = some (.cells #[.int .i64 0, .string ⟨#[]⟩, .string ⟨#[]⟩, .slice none 0 0, .slice none 0 0, .int .i64 0, .int .i64 0, .string ⟨#[]⟩] 26 (0, 0))) := by rw [← hVa]; exact (set_other (by omega)).trans HR20.out
                have HOpa : Hid (OpAt w.heap.size Bk { q with tt := t20 } Va) := by rw [← hVa]; exact HOp20.out.setTt _
                have Hqa : Hid (OpP.ok { q with tt := t20 } ∧ OpP.few { q with tt := t20 } 3) := by
                  obtain ⟨⟨q1, q2, q3, q4, q5, q6, q7, q8, q9, q10⟩, qp⟩ := Hq.out
                  exact ⟨⟨q1, q2, by show t20.size ≤ 300; omega, q4, q5, q6, q7, q8, q9, q10⟩, qp⟩
                have HVa := mkHid hVa
                obtain ⟨qa, hqa⟩ : ∃ q9 : OpP, q9 = { q with tt := t20 } := ⟨_, rfl⟩
                rw [← hqa] at HOpa Hqa
                clear hVa hqa
                go_wp2
                rw [HVa.out]
                go_meet
                case rel => exact ⟨Hga.out, ⟨_, by omega, Hsa.out⟩, HRa.out, qa, ⟨Hqa.out.1, Hqa.out.2.up (by omega)⟩, HOpa.out⟩
              omega
          case rest =>
            clear Hs8 Hg8 HR8 HOp8 Hq haX
            obtain ⟨hgW, ⟨aY, haY, hsX⟩, hRX, q9, hq9, uo, fo, uc, fc, hBX, hUX, hPX⟩ := hcut.out
            clear hcut
            go_wp2_with (first | (refine wpL_store_row rfl 26 _ _ rfl R _ rfl rfl 26 _ hRX (by kernel_rfl) rfl (by simp [Value.oneCell']) ?_) | (refine wpL_load_row rfl 26 _ rfl Bk _ 26 (0, 0) _ rfl hBX Tryd.underlying26 rfl (by kernel_rfl) ?_))
            refine bodyPost_ret (v := .agg #[.int .i64 q9.k, .string q9.bx, .string q9.tt, .slice uo q9.U.length uc, .slice fo q9.P.length fc, .int .i64 q9.tm, .int .i64 q9.md, .string q9.ms]) (results_cell_row Tryd.results19 _ _ R 26 _ (0, 0) _ rfl (setRow_heap _ _ _ _ _ _ hRX) Tryd.underlying26 rfl (by kernel_rfl)) rfl ?_
            exact ⟨q9, uo, fo, uc, fc, aY, rfl, hq9, row_stay hUX (fun k hk => setRow_other _ _ _ _ (row_not_block hUX hRX (by decide) k hk)), row_stay hPX (fun k hk => setRow_other _ _ _ _ (row_not_block hPX hRX (by decide) k hk)), by omega, hsX.setR (by omega), gr_setR hgW hRw⟩
end Go.Proofs.YtillilllceeonaaDoor
