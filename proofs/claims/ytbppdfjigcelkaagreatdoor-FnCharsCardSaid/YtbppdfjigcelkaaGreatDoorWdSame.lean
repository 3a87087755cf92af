
/- Decode, the program's side: the loop over any set that takes points. -/

/- Draws of characters: what is encoded, written as words, taken. -/

/- Draws of characters: a set and bytes. -/

/- The specification's cut of a text at a byte, and its number. -/

/- A word's parts, plain: both sides cut the same. -/
import Derived.Test.YtbppdfjigcelkaaGreatDoorDcTake5
import Derived.Test.YtbppdfjigcelkaaGreatDoorNinePlain
import Derived.Test.YtbppdfjigcelkaaGreatDoorEncLoop
import Derived.Test.YtbppdfjigcelkaaGreatDoorWildPlain
import Derived.Test.YtbppdfjigcelkaaGreatDoorPhrasePlain
import Derived.Deep.Cut
namespace Go.Proofs.YtbppdfjigcelkaaGreatDoor
open Go.RowKit Go.Lib Go.Maps
/-- A set, as an interface value in the world W: it takes points. -/
structure Taker (set : Int) (T : TypeId) (rv : Value) (f : FuncId) (W : World) : Prop where
  ahead : ∀ w, (nilAhead 295 T rv "loop.example/g00013/impl.take").run Tryz.prog w = .ok (some false) w
  meth : ∀ w, (method 295 T rv "loop.example/g00013/impl.take").run Tryz.prog w = .ok (f, rv) w
  enters : ∀ (args : Array Value) (w : World), (callFunc f args).run Tryz.prog w = .ok (.enter f args) w
  take : ∀ (s : ByteArray) w, 0 < s.size → s.size ≤ 1100000 → Below W.heap.size W w → Calls Tryz.prog f #[rv, .string s] w fun e w' => e = .returned (tkV (Pd.take set s.data.toList)) ∧ Below w.heap.size w w'
/-- What Decode answers. -/
def DecOut (B : Nat) (x : Option (List Int)) (e : Ending) (w : World) : Prop := match x with
  | some ps => ∃ v, e = .returned (.agg #[.bool true, .int .i64 0, v]) ∧ OwnN B v ps w
  | none => ∃ i, e = .returned (.agg #[.bool false, .int .i64 i, .slice none 0 0])
set_option maxRecDepth 20000 in
theorem implTooLongD (s : ByteArray) (w : World) (hs : s.size ≤ 100000) : Calls Tryz.prog 23 #[.string s] w fun e w' => e = .returned (.bool false) ∧ w = w' := by
  have h : ¬ (100000 : Int) < (s.size : Int) := by omega
  go_enter Tryz.func23, Tryz.ntmps23
  go_wp2
  go_ret
  exact ⟨rfl, rfl⟩
set_option maxRecDepth 20000 in
theorem ext_drop (s : ByteArray) (k : Nat) : (s.extract k s.size).data.toList = s.data.toList.drop k := by
  simp [ByteArray.data_extract, Array.toList_extract, List.take_of_length_le]
set_option maxRecDepth 20000 in
theorem own_baseN {B B' : Nat} {v : Value} {P : List Int} {w : World} (h : OwnN B v P w) (hB : B' ≤ B) : OwnN B' v P w := by
  refine ⟨h.1, ?_⟩
  rcases h.2 with h0 | ⟨g, cap, cur, hv, hg, hr⟩
  · exact .inl h0
  · exact .inr ⟨g, cap, cur, hv, Nat.le_trans hB hg, hr⟩
set_option maxRecDepth 20000 in
theorem retD {w wr : World} {tmps : Array Value} {x : Option (List Int)} (cs : Array Value) (hp : tmps.getD 4 undef = .pointer (some ⟨w.heap.size, 0, none⟩)) {old : Array Value} (hres : wr.heap[w.heap.size]? = some (.cells old 30 (0, 0))) (hb : Below w.heap.size w wr) (h3 : cs.size = 3) (ho : DecOut w.heap.size x (.returned (.agg cs)) (wr.setRow w.heap.size cs)) :
    bodyPost Tryz.prog Tryz.f7 (fun e w' => DecOut w.heap.size x e w' ∧ Below w.heap.size w w') Exit.ret { tmps := tmps, defers := [] } (wr.setRow w.heap.size cs) := by
  refine bodyPost_ret (v := .agg cs) (results_cell_row Tryz.results7 _ _ w.heap.size 30 _ (0, 0) _ hp (setRow_heap _ _ _ _ _ _ hres) Tryz.underlying30 rfl ?_) rfl ⟨ho, hb.grown (grown_setRow _ _ _) hb.size (fun j hj => by cases hj; exact Nat.le_refl _)⟩
  rw [h3]
  kernel_rfl
set_option maxRecDepth 20000 in
set_option maxHeartbeats 4000000 in
theorem implDec (set : Int) (s : ByteArray) (w : World) (hs : s.size ≤ 100000)
    (hch : Calls Tryz.prog 21 #[.int .i64 set] (w.alloc (.cells #[.bool false, .int .i64 0, .slice none 0 0] 30)) fun e W => ∃ T rv f, e = .returned (.iface T rv) ∧ Below (w.alloc (.cells #[.bool false, .int .i64 0, .slice none 0 0] 30)).heap.size (w.alloc (.cells #[.bool false, .int .i64 0, .slice none 0 0] 30)) W ∧ Taker set T rv f W) :
    Calls Tryz.prog 7 #[.int .i64 set, .string s] w fun e w' => DecOut w.heap.size (Pd.dec set [] s.data.toList) e w' ∧ Below w.heap.size w w' := by
  have hc0 : decide ((100000 : Int) < (s.size : Int)) = false := by simp; omega
  have hch := mkHid hch
  have hN0 : (w.alloc (.cells #[.bool false, .int .i64 0, .slice none 0 0] 30)).heap[w.heap.size]? = some (.cells #[.bool false, .int .i64 0, .slice none 0 0] 30 (0, 0)) := heap_alloc_at _ _
  have hB0 : Below w.heap.size w (w.alloc (.cells #[.bool false, .int .i64 0, .slice none 0 0] 30)) := (Below.refl _ _).alloc (Nat.le_refl _) _
  have hz0 : (w.alloc (.cells #[.bool false, .int .i64 0, .slice none 0 0] 30)).heap.size = w.heap.size + 1 := World.size_alloc _ _
  have hTL := mkHid (fun W => implTooLongD s W hs)
  go_enter Tryz.func7, Tryz.ntmps7
  go_wp2_with fail
  refine hch.out.mono ?_
  rintro e W ⟨T, rv, f, rfl, hbW, hP⟩
  have HP := mkHid hP
  have hm := hP.meth
  have hah := hP.ahead
  have hE := hP.enters
  have HN : Hid (W.heap[w.heap.size]? = some (.cells #[.bool false, .int .i64 0, .slice none 0 0] 30 (0, 0))) := mkHid ((hbW.block _ (by omega)).trans hN0)
  have HB : Hid (Below w.heap.size w W) := mkHid (hB0.trans (hbW.mono (by omega)))
  have zW : w.heap.size + 1 ≤ W.heap.size := by have := hbW.size; omega
  clear hch hP hbW hB0 hN0 hz0
  go_wp2_with fail
  refine (hTL.out _).mono ?_
  rintro e W' ⟨rfl, rfl⟩
  clear hTL
  go_wp2
  go_loopw [6, 7] (fun v iv wr => ∃ (k : Nat) (p : List Int), k ≤ s.size ∧ iv = .int .i64 k ∧ p.length ≤ k ∧ Hid (Pd.dec set p (s.data.toList.drop k) = Pd.dec set [] s.data.toList) ∧ Hid (OwnN W.heap.size v p wr) ∧ Hid (Below W.heap.size W wr)) (fun _ iv _ => s.size - (Lib.intOf iv).toNat)
  case atStart => exact ⟨0, [], Nat.zero_le _, rfl, Nat.le_refl _, mkHid rfl, mkHid (OwnN.nil _ _), mkHid (Below.refl _ _)⟩
  case round =>
    obtain ⟨k, p, hk, rfl, hpl, Hd, HO, Hb⟩ := hrel
    have hll : s.data.toList.length = s.size := by simp
    have hres := (Hb.out.block w.heap.size (by omega)).trans HN.out
    have zr : W.heap.size ≤ wr.heap.size := Hb.out.size
    have hbw := mkHid (HB.out.trans (Hb.out.mono HB.out.size))
    obtain ⟨ob, cb, rfl⟩ := HO.out.shape
    by_cases hlt : k < s.size
    · have hes : (s.extract k s.size).size = s.size - k := by simp
      have hMe : Hid (∀ d os, Calls Tryz.prog f #[rv, .string (s.extract k s.size)] (Go.Sort.grow (redrawn wr d) os) fun e w'' => e = .returned (tkV (Pd.take set (s.data.toList.drop k))) ∧ ∃ p : Regrown, w'' = Go.Sort.grow (redrawn wr p.d) p.os) := mkHid (fun d os => by
        have := HP.out.take (s.extract k s.size) (Go.Sort.grow (redrawn wr d) os) (by omega) (by omega) (Hb.out.trans ((below_regrown wr d os).mono zr))
        rw [ext_drop] at this
        exact Calls.regrown_of this)
      have hkd : k < s.data.toList.length := by omega
      cases hx : Pd.take set (s.data.toList.drop k) with
      | none =>
        have Hbad := mkHid (Pd.dec_bad hkd hx Hd.out)
        rw [hx] at hMe
        unfold tkV at hMe
        clear hx
        go_wp2
        refine wp_region_quiet_below (by kernel_rfl) (by kernel_rfl) ?_
        iterate 7 (quiet_step (fail))
        quiet_step (first | exact hMe.out _ _ | exact ⟨trivial, hMe.out _ _⟩ | (trace_state; fail))
        repeat (quiet_step (fail))
        refine wpQuiet_nil ?_
        intro _ hw'
        obtain ⟨⟨dq, osq⟩, hw''⟩ := hw'
        subst hw''
        have hrq := ((below_regrown wr dq osq).block w.heap.size (by omega)).trans hres
        have hbq := mkHid (hbw.out.trans ((below_regrown wr dq osq).mono hbw.out.size))
        generalize Go.Sort.grow (redrawn wr dq) osq = wq at *
        clear hMe hm hE hah
        go_wp2_with (first | (refine wpL_store_row rfl 30 _ _ rfl w.heap.size #[.bool false, .int .i64 (k : Int), .slice none 0 0] rfl rfl 30 _ hrq (by kernel_rfl) rfl (by simp [Value.oneCell']) ?_) | go_in)
        rw [Hbad.out]
        exact retD _ rfl hrq hbq.out rfl ⟨_, rfl⟩
      | some qn =>
        obtain ⟨q, n⟩ := qn
        obtain ⟨hn1, hn2⟩ := Pd.take_room (by rw [List.drop_eq_getElem_cons hkd]; exact List.cons_ne_nil _ _) hx
        have Hst := mkHid (Pd.dec_step hkd hx Hd.out)
        have hn3 : k + n ≤ s.size := by rw [List.length_drop] at hn2; omega
        rw [hx] at hMe
        unfold tkV at hMe
        clear hx
        have hnz : ((n : Int) == 0) = false := by rw [beq_eq_false_iff_ne]; omega
        go_wp2
        refine wp_region_quiet_below (by kernel_rfl) (by kernel_rfl) ?_
        iterate 7 (quiet_step (fail))
        quiet_step (first | exact hMe.out _ _ | exact ⟨trivial, hMe.out _ _⟩ | (trace_state; fail))
        repeat (quiet_step (fail))
        refine wpQuiet_nil ?_
        intro _ hw'
        obtain ⟨⟨dq, osq⟩, hw''⟩ := hw'
        subst hw''
        have HOq := mkHid (HO.out.below (below_regrown wr dq osq))
        have Hbq := mkHid (Hb.out.trans ((below_regrown wr dq osq).mono zr))
        generalize Go.Sort.grow (redrawn wr dq) osq = wq at *
        have zq : W.heap.size ≤ wq.heap.size := Hbq.out.size
        clear hMe hm hE hah hres hbw HO Hb zr
        go_wp2_with (at_builtin; refine wp_appN rfl _ _ rfl W.heap.size (.slice ob p.length cb) p rfl HOq.out q _ rfl (by omega) zq ?_; intro v5 w5 hown5 hg5; refine Hid.out ?_)
        refine mkHid ?_
        have Hb5 := mkHid (Hbq.out.trans (show Below W.heap.size wq w5 from
          ⟨hg5.os, hg5.tape, hg5.output, Nat.le_trans (by simp) hg5.size, fun j hj => (hg5.block j (by simp; omega) (fun e => by have := (World.ownsRow.lt HOq.out j e.symm).1; omega)).trans (heap_alloc_old _ _ _ (by omega))⟩))
        clear hg5
        go_wp2
        go_roundw
        case rel => exact ⟨k + n, p ++ [q], hn3, by go_num, by simp; omega, Hst, mkHid hown5, Hb5⟩
        case measure => simp [Lib.intOf]; omega
    · have Hdn := mkHid (Pd.dec_done (by omega) Hd.out)
      go_wp2_with (first | (refine wpL_store_row rfl 30 _ _ rfl w.heap.size #[.bool true, .int .i64 0, .slice ob p.length cb] rfl rfl 30 _ hres (by kernel_rfl) rfl (by simp [Value.oneCell']) ?_) | go_in)
      rw [Hdn.out]
      refine retD _ rfl hres hbw.out rfl ⟨_, rfl, ?_⟩
      have hk2 := OwnN.keep HO.out (grown_setRow wr w.heap.size #[.bool true, .int .i64 0, .slice ob p.length cb]) (.inr (fun e => by have := (World.ownsRow.lt HO.out w.heap.size e).1; omega))
      exact own_baseN hk2 (by omega)
end Go.Proofs.YtbppdfjigcelkaaGreatDoor
namespace Go.Proofs.YtbppdfjigcelkaaGreatDoor
open Go.RowKit Go.Lib Go.Maps
/-- A set and points were drawn. -/
def EncDraw (w : World) (e : Ending) (w' : World) : Prop := ∃ (set : Int) (v : Value) (P : List Int), e = .returned (.tuple #[.int .i64 set, v]) ∧ P.length ≤ 200 ∧ OwnN w.heap.size v P w' ∧ Below w.heap.size w w'
/-- Points were drawn. -/
def WordDraw (w : World) (e : Ending) (w' : World) : Prop := ∃ (v : Value) (P : List Int), e = .returned v ∧ P.length ≤ 200 ∧ OwnN w.heap.size v P w' ∧ Below w.heap.size w w'
/-- A set and bytes were drawn. -/
def DecDraw (w : World) (e : Ending) (w' : World) : Prop := ∃ (set : Int) (t : ByteArray), e = .returned (.tuple #[.int .i64 set, .string t]) ∧ t.size ≤ 1000 ∧ Below w.heap.size w w'
/-- Points that were drawn, on the way. -/
def PtSt (w1 : World) (g : Nat) (o : Option Addr) (cl cp z N A : Nat) (v : Value) (wx : World) : Prop := ∃ (P : List Int) (a' : Nat), OwnN w1.heap.size v P wx ∧ P.length ≤ N ∧ a' ≤ A ∧ Src wx g o cl cp a' z ∧ w1.grownBy wx (some g)
set_option maxRecDepth 20000 in
set_option maxHeartbeats 8000000 in
theorem drawEncode (o : Option Addr) (c : List UInt8) (cp : Nat) (w : World) (hc : Code w.heap.size w o c) (hl : c.length ≤ 1048576) :
    Calls Tryz.prog 4 #[.slice o c.length cp] w fun e w' => EncDraw w e w' := by
  have HC : Hid (Code w.heap.size w o c) := hc
  have hS := mkHid (srcNew o c.length cp w hl)
  clear hc
  go_enter Tryz.func4, Tryz.ntmps4
  go_wp2_with fail
  refine hS.out.mono ?_
  rintro e w1 ⟨z, rfl, hz, hs1, hb1⟩
  obtain ⟨g, hg⟩ : ∃ g, w.heap.size = g := ⟨_, rfl⟩
  rw [hg] at hs1 hb1 HC ⊢
  have Hc1 := mkHid (HC.out.below hb1)
  have cz := hs1.c2
  have Hs1 := mkHid hs1
  have hg1 : g < w1.heap.size := hs1.lt
  have hz12 : (12 : Int) + 4 * (z : Int) ≤ 4000000000 := by omega
  have hN := mkHid (srcN g o c cp 0 z (12 + 4 * (z : Int)) w1 Hs1.out Hc1.out (by omega) hl hz12 (by omega))
  have HG := mkHid hg
  have Hb1 := mkHid hb1
  clear hS hs1 hb1 hg HC
  go_wp2_with fail
  refine hN.out.mono ?_
  rintro e w2 ⟨v, rfl, hv, hs2, hg2⟩
  have Hs2 := mkHid hs2
  have Hg2 := mkHid hg2
  have hPt := mkHid (srcPoints g o c cp (0 + 1) z v w2 Hs2.out (Hc1.out.grown Hg2.out (Nat.le_refl _)) (by omega) hl (by omega))
  clear hN hs2 hg2 Hs1 cz
  go_wp2_with fail
  refine hPt.out.mono ?_
  rintro e w3 ⟨u, P, a3, rfl, hP, hO3, ha3, hs3, hg3⟩
  have Hs3 := mkHid hs3
  have Hg3 := mkHid (gr_trans Hg2.out hg3)
  have z2 := Hg2.out.size
  have HO3 := mkHid (own_baseN hO3 (B' := w1.heap.size) (by omega))
  have hone := mkHid (srcOne g o c cp a3 z 6 w3 Hs3.out (Hc1.out.grown Hg3.out (Nat.le_refl _)) (by omega) hl (by omega) (by omega))
  clear hPt hs3 hg3 hO3 Hs2 Hg2
  go_wp2_with fail
  refine hone.out.mono ?_
  rintro e w4 ⟨b, rfl, hs4, hg4⟩
  have Hs4 := mkHid hs4
  have Hg4 := mkHid (gr_trans Hg3.out hg4)
  have HO4 := mkHid (HO3.out.grG hg4 (by omega))
  have hg4l : g < w4.heap.size := Hs4.out.lt
  have hP60 : P.length ≤ 100 := by omega
  have ha4 : a3 ≤ 1000 := by omega
  clear hone hs4 hg4 Hs3 Hg3 HO3 hv hP ha3
  cases b with
  | false =>
    have hN7 := mkHid (srcN g o c cp (a3 + 1) z 7 w4 Hs4.out (Hc1.out.grown Hg4.out (Nat.le_refl _)) (by omega) hl (by omega) (by omega))
    go_simp
    go_wp2_with fail
    refine hN7.out.mono ?_
    rintro e w5 ⟨q, rfl, hq, hs5, hg5⟩
    have HO5 := mkHid (HO4.out.grG hg5 (by omega))
    have HB5 := mkHid (gr_new (w := w) (by rw [HG.out]; exact Hb1.out) (by rw [HG.out]; exact gr_trans Hg4.out hg5))
    clear hN7 hs5 hg5 Hs4 Hg4 HO4
    go_wp2
    go_ret2
    exact ⟨q, _, P, rfl, by omega, by rw [HG.out]; exact own_baseN HO5.out (by omega), HB5.out⟩
  | true =>
    have hbA : ∀ cs, Below w4.heap.size w4 (w4.alloc (.cells cs 2)) := fun cs => (Below.refl _ _).alloc (Nat.le_refl _) _
    have hN5 := mkHid (fun cs => srcN g o c cp (a3 + 1) z 5 (w4.alloc (.cells cs 2)) (Hs4.out.below (hbA cs)) (Hc1.out.grown (gr_trans Hg4.out (gr_below (hbA cs))) (Nat.le_refl _)) (by omega) hl (by omega) (by omega))
    have HbA := mkHid hbA
    clear hbA
    go_simp
    go_wp2_with fail
    refine (hN5.out _).mono ?_
    rintro e w5 ⟨q, rfl, hq, hs5, hg5⟩
    obtain ⟨t, hct, ht1, ht2⟩ := numTable_at (lo := -1) (hi := 1114112) hg5 hg4l (show q < 5 by omega) (by decide)
    have hq5 : q < 5 := by omega
    have Hs5 := mkHid hs5
    have Hg5 := mkHid (gr_trans Hg4.out (gr_trans (gr_below (HbA.out _)) hg5))
    have HO5 := mkHid ((HO4.out.below (HbA.out _)).grG hg5 (by omega))
    have zg5 : w1.heap.size ≤ w5.heap.size := Hg5.out.size
    clear hN5 hs5 hg5 Hs4 Hg4 HO4 HbA
    go_wp2_with (at_builtin; go_must (refine wp_appN (w := w5) rfl _ _ rfl w1.heap.size u P rfl HO5.out t 1 rfl (by omega) zg5 ?_; intro v' w' hO' hG'; refine Hid.out ?_))
    have hblk : ∀ q, u.ownBlock = some q → w1.heap.size ≤ q := fun q hq => (World.ownsRow.lt HO5.out q hq).1
    have bA : Below w5.heap.size w5 (w5.alloc (.cells #[.int .i64 t] 2)) := (Below.refl _ _).alloc (Nat.le_refl _) _
    have Hs6 := mkHid ((Hs5.out.below bA).row hG' (fun q hq => by have := hblk q hq; omega))
    have Hg6 := mkHid (gr_row (gr_trans Hg5.out (gr_below bA)) hG' hblk)
    have HO6 := mkHid hO'
    have hP2 : (P ++ [t]).length ≤ 200 := by simp; omega
    clear hO' hG' bA HO5 Hs5 Hg5
    generalize P ++ [t] = P2 at *
    refine mkHid ?_
    have hN7 := mkHid (srcN g o c cp (a3 + 1 + 1) z 7 w' Hs6.out (Hc1.out.grown Hg6.out (Nat.le_refl _)) (by omega) hl (by omega) (by omega))
    go_wp2_with fail
    refine hN7.out.mono ?_
    rintro e w7 ⟨q7, rfl, hq7, hs7, hg7⟩
    have HO7 := mkHid (HO6.out.grG hg7 (by omega))
    have HB7 := mkHid (gr_new (w := w) (by rw [HG.out]; exact Hb1.out) (by rw [HG.out]; exact gr_trans Hg6.out hg7))
    clear hN7 hs7 hg7 Hs6 Hg6 HO6
    go_wp2
    go_ret2
    exact ⟨q7, _, P2, rfl, by omega, by rw [HG.out]; exact own_baseN HO7.out (by omega), HB7.out⟩
set_option maxRecDepth 20000 in
set_option maxHeartbeats 8000000 in
theorem drawWords (o : Option Addr) (c : List UInt8) (cp : Nat) (w : World) (hc : Code w.heap.size w o c) (hl : c.length ≤ 1048576) :
    Calls Tryz.prog 9 #[.slice o c.length cp] w fun e w' => WordDraw w e w' := by
  have HC : Hid (Code w.heap.size w o c) := hc
  have hS := mkHid (srcNew o c.length cp w hl)
  clear hc
  go_enter Tryz.func9, Tryz.ntmps9
  go_wp2_with fail
  refine hS.out.mono ?_
  rintro e w1 ⟨z, rfl, hz, hs1, hb1⟩
  obtain ⟨g, hg⟩ : ∃ g, w.heap.size = g := ⟨_, rfl⟩
  rw [hg] at hs1 hb1 HC ⊢
  have Hc1 := mkHid (HC.out.below hb1)
  have cz := hs1.c2
  have Hs1 := mkHid hs1
  have hg1 : g < w1.heap.size := hs1.lt
  have hz12 : (20 : Int) + 6 * (z : Int) ≤ 4000000000 := by omega
  have hN := mkHid (srcN g o c cp 0 z (20 + 6 * (z : Int)) w1 Hs1.out Hc1.out (by omega) hl hz12 (by omega))
  have HG := mkHid hg
  have Hb1 := mkHid hb1
  clear hS hs1 hb1 hg HC
  go_wp2_with fail
  refine hN.out.mono ?_
  rintro e w2 ⟨v, rfl, hv, hs2, hg2⟩
  have Hs2 := mkHid hs2
  have Hg2 := mkHid hg2
  have hPt := mkHid (srcPoints g o c cp (0 + 1) z v w2 Hs2.out (Hc1.out.grown Hg2.out (Nat.le_refl _)) (by omega) hl (by omega))
  clear hN hs2 hg2 Hs1 cz
  go_wp2_with fail
  refine hPt.out.mono ?_
  rintro e w3 ⟨u, P, a3, rfl, hP, hO3, ha3, hs3, hg3⟩
  have Hs3 := mkHid hs3
  have Hg3 := mkHid (gr_trans Hg2.out hg3)
  have z2 := Hg2.out.size
  have HO3 := mkHid (own_baseN hO3 (B' := w1.heap.size) (by omega))
  have hone := mkHid (srcOne g o c cp a3 z 6 w3 Hs3.out (Hc1.out.grown Hg3.out (Nat.le_refl _)) (by omega) hl (by omega) (by omega))
  clear hPt hs3 hg3 hO3 Hs2 Hg2
  go_wp2_with fail
  refine hone.out.mono ?_
  rintro e w4 ⟨b, rfl, hs4, hg4⟩
  have Hs4 := mkHid hs4
  have Hg4 := mkHid (gr_trans Hg3.out hg4)
  have HO4 := mkHid (HO3.out.grG hg4 (by omega))
  have hP60 : P.length ≤ 100 := by omega
  have ha4 : a3 ≤ 1000 := by omega
  have zg4 : w1.heap.size ≤ w4.heap.size := Hg4.out.size
  clear hone hs4 hg4 Hs3 Hg3 HO3 hv hP ha3
  have HSt : Hid (PtSt w1 g o c.length cp z 100 1001 u w4) := mkHid ⟨P, a3 + 1, HO4.out, hP60, by omega, Hs4.out, Hg4.out⟩
  clear Hs4 Hg4 HO4 hP60 ha4 zg4
  go_simp
  go_upto_if 18 with fail
  go_cut [4] from 5 (fun v wx => Hid (PtSt w1 g o c.length cp z 102 1001 v wx))
  case first =>
    obtain ⟨P, a4, hO, hP, ha4, hs, hg4⟩ := HSt.out
    have HO := mkHid hO
    have Hs := mkHid hs
    have Hg4 := mkHid hg4
    have zg4 : w1.heap.size ≤ w4.heap.size := hg4.size
    clear hO hs hg4
    cases b with
    | false =>
      clear HSt
      go_wp2
      go_meet
      case rel => exact mkHid ⟨P, a4, HO.out, by omega, ha4, Hs.out, Hg4.out⟩
    | true =>
      have bA : Below w4.heap.size w4 (w4.alloc (.cells #[.int .i64 61, .int .i64 63] 2)) := (Below.refl _ _).alloc (Nat.le_refl _) _
      obtain ⟨V, hV⟩ : ∃ V, w4.alloc (.cells #[.int .i64 61, .int .i64 63] 2) = V := ⟨_, rfl⟩
      have hIn : InL w4.heap.size V.heap.size V (some ⟨w4.heap.size, 0, none⟩) [61, 63] := by
        rw [← hV]
        intro k hk
        refine ⟨_, rfl, Nat.le_refl _, by simp, ?_⟩
        rw [add_off]
        match k, hk with
        | 0, _ => simp
        | 1, _ => simp
      rw [hV] at bA
      have HOV := mkHid (HO.out.below bA)
      have HsV := mkHid (Hs.out.below bA)
      have HgV := mkHid (gr_trans Hg4.out (gr_below bA))
      have zV : w1.heap.size ≤ V.heap.size := HgV.out.size
      have HV := mkHid hV
      clear hV bA HO Hs Hg4 HSt
      go_wp2_with (at_builtin; rw [HV.out]; go_must (refine wp_appNs (w := V) rfl _ _ rfl w1.heap.size u P rfl HOV.out (some ⟨w4.heap.size, 0, none⟩) [61, 63] 2 w4.heap.size rfl hIn (by simp; omega) zV ?_; intro v' w' hO' hG' hv'; refine Hid.out ?_))
      have hblk : ∀ q, u.ownBlock = some q → w1.heap.size ≤ q := fun q hq => (World.ownsRow.lt HOV.out q hq).1
      have HS2 : Hid (PtSt w1 g o c.length cp z 102 1001 v' w') := mkHid ⟨P ++ [61, 63], a4, hO', by simp; omega, ha4, HsV.out.row hG' (fun q hq => by have := hblk q hq; omega), gr_row HgV.out hG' hblk⟩
      clear hO' hG' hv' hblk HOV HsV HgV hIn
      refine mkHid ?_
      go_wp2
      go_meet
      case rel => exact HS2
  case rest =>
    have HS2 := hcut
    clear HSt hcut
    obtain ⟨W5, hW5⟩ : ∃ V, V = wc := ⟨_, rfl⟩
    subst hW5
    obtain ⟨P, a4, hO, hP, ha4, hs, hg4⟩ := HS2.out
    have hone := mkHid (srcOne g o c cp a4 z 20 W5 hs (Hc1.out.grown hg4 (Nat.le_refl _)) (by omega) hl (by omega) (by omega))
    have HO := mkHid hO
    have Hg4 := mkHid hg4
    clear hO hs hg4 HS2
    go_wp2_with fail
    refine hone.out.mono ?_
    rintro e w6 ⟨b6, rfl, hs6, hg6⟩
    have HO6 := mkHid (HO.out.grG hg6 (by omega))
    have Hg6 := mkHid (gr_trans Hg4.out hg6)
    have zg6 : w1.heap.size ≤ w6.heap.size := Hg6.out.size
    clear hone hs6 hg6 HO Hg4
    cases b6 with
    | false =>
      have HB := mkHid (gr_new (w := w) (by rw [HG.out]; exact Hb1.out) (by rw [HG.out]; exact Hg6.out))
      go_simp
      go_wp2
      go_ret
      exact ⟨_, P, rfl, by omega, by rw [HG.out]; exact own_baseN HO6.out (by omega), HB.out⟩
    | true =>
      go_simp
      go_wp2_with (at_builtin; go_must (refine wp_appN (w := w6) rfl _ _ rfl w1.heap.size u4 P rfl HO6.out (-1) 1 rfl (by omega) zg6 ?_; intro v' w' hO' hG'; refine Hid.out ?_))
      have bA : Below w6.heap.size w6 (w6.alloc (.cells #[.int .i64 (-1)] 2)) := (Below.refl _ _).alloc (Nat.le_refl _) _
      have Hg7 := mkHid (gr_row (gr_trans Hg6.out (gr_below bA)) hG' (fun q hq => (World.ownsRow.lt HO6.out q hq).1))
      have HO7 := mkHid hO'
      have hP2 : (P ++ [(-1 : Int)]).length ≤ 200 := by simp; omega
      have HB := mkHid (gr_new (w := w) (by rw [HG.out]; exact Hb1.out) (by rw [HG.out]; exact Hg7.out))
      clear hO' hG' bA HO6 Hg6
      generalize P ++ [(-1 : Int)] = P2 at *
      refine mkHid ?_
      go_wp2
      go_ret
      exact ⟨_, P2, rfl, hP2, by rw [HG.out]; exact own_baseN HO7.out (by omega), HB.out⟩
end Go.Proofs.YtbppdfjigcelkaaGreatDoor
namespace Go.Proofs.YtbppdfjigcelkaaGreatDoor
open Go.RowKit Go.Lib Go.Maps
/-- A text that was drawn, on the way. -/
def TxSt (w1 : World) (g : Nat) (o : Option Addr) (cl cp z N A : Nat) (v : Value) (wx : World) : Prop := ∃ (t : ByteArray) (a' : Nat), v = .string t ∧ t.size ≤ N ∧ a' ≤ A ∧ Src wx g o cl cp a' z ∧ w1.grownBy wx (some g)
set_option maxRecDepth 20000 in
theorem enc_size (set : Int) (ps : List Int) (hl : ps.length ≤ 200) : ∃ (b : Bool) (t : ByteArray), encV (encA set ps) = .agg #[.bool b, .string t] ∧ t.size ≤ 800 := by
  unfold encA
  split
  · exact ⟨false, _, rfl, by decide⟩
  · cases h : Pl.enc (Pl.form set) [] ps with
    | none => exact ⟨false, _, rfl, by decide⟩
    | some l =>
      refine ⟨true, _, rfl, ?_⟩
      have hb : ∀ (qs : List Int) (out l : List UInt8), Pl.enc (Pl.form set) out qs = some l → l.length ≤ out.length + 4 * qs.length := by
        intro qs
        induction qs with
        | nil => intro out l h; rw [Pl.enc] at h; cases h; simp
        | cons q r ih =>
          intro out l h
          rw [Pl.enc] at h
          split at h
          · cases h
          · have h1 := ih _ _ h
            have h2 := Pl.form_len set q
            rw [List.length_append] at h1
            rw [List.length_cons]
            omega
      have := hb ps [] l h
      show l.toArray.size ≤ 800
      simp at this ⊢
      omega
set_option maxRecDepth 20000 in
theorem fieldB (b : Bool) (t : ByteArray) (w : World) : Sem.run Tryz.prog (Instr.field 27 (.agg #[.bool b, .string t]) 1) w = .ok (.string t) w := by kernel_rfl
set_option maxRecDepth 20000 in
set_option maxHeartbeats 16000000 in
theorem drawDecode (o : Option Addr) (c : List UInt8) (cp : Nat) (w : World) (hc : Code w.heap.size w o c) (hl : c.length ≤ 1048576) :
    Calls Tryz.prog 13 #[.slice o c.length cp] w fun e w' => DecDraw w e w' := by
  have HC : Hid (Code w.heap.size w o c) := hc
  have hS := mkHid (srcNew o c.length cp w hl)
  clear hc
  go_enter Tryz.func13, Tryz.ntmps13
  go_wp2_with fail
  refine hS.out.mono ?_
  rintro e w1 ⟨z, rfl, hz, hs1, hb1⟩
  obtain ⟨g, hg⟩ : ∃ g, w.heap.size = g := ⟨_, rfl⟩
  rw [hg] at hs1 hb1 HC ⊢
  have Hc1 := mkHid (HC.out.below hb1)
  have Hs1 := mkHid hs1
  have hg1 : g < w1.heap.size := hs1.lt
  have HG := mkHid hg
  have Hb1 := mkHid hb1
  have hN0 := mkHid (srcN g o c cp 0 z 5 w1 Hs1.out Hc1.out (by omega) hl (by omega) (by omega))
  clear hS hs1 hb1 hg HC
  go_wp2_with fail
  refine hN0.out.mono ?_
  rintro e w2 ⟨v0, rfl, hv0, hs2, hg2⟩
  have cz := hs2.c2
  have Hs2 := mkHid hs2
  have Hg2 := mkHid hg2
  have hz12 : (12 : Int) + 4 * (z : Int) ≤ 4000000000 := by omega
  have hN := mkHid (srcN g o c cp (0 + 1) z (12 + 4 * (z : Int)) w2 Hs2.out (Hc1.out.grown Hg2.out (Nat.le_refl _)) (by omega) hl hz12 (by omega))
  clear hN0 hs2 hg2 Hs1
  go_wp2_with fail
  refine hN.out.mono ?_
  rintro e w3 ⟨v, rfl, hv, hs3, hg3⟩
  have Hs3 := mkHid hs3
  have Hg3 := mkHid (gr_trans Hg2.out hg3)
  have hPt := mkHid (srcPoints g o c cp (0 + 1 + 1) z v w3 Hs3.out (Hc1.out.grown Hg3.out (Nat.le_refl _)) (by omega) hl (by omega))
  clear hN hs3 hg3 Hs2 Hg2 cz
  go_wp2_with fail
  refine hPt.out.mono ?_
  rintro e w4 ⟨u, P, a4, rfl, hP, hO4, ha4, hs4, hg4⟩
  have Hs4 := mkHid hs4
  have Hg4 := mkHid (gr_trans Hg3.out hg4)
  obtain ⟨op, cp2, rfl⟩ := hO4.shape
  have hIn := hO4.inL
  have hPtA : PtsAt w4.heap.size w4 op P := fun k hk => by
    obtain ⟨a, h1, -, h2, h3⟩ := hIn k hk
    exact ⟨a, h1, h2, h3⟩
  have hEn := mkHid (specEncode (1 + (v0 : Int)) op P cp2 w4 hPtA (by omega))
  obtain ⟨eb, et, hee, hes⟩ := enc_size (1 + (v0 : Int)) P (by omega)
  rw [hee] at hEn
  clear hPt hs4 hg4 hO4 Hs3 Hg3 hPtA hIn hee
  go_wp2_with fail
  refine hEn.out.mono ?_
  rintro e w5 ⟨rfl, hb5⟩
  have Hs5 := mkHid (Hs4.out.below hb5)
  have Hg5 := mkHid (gr_trans Hg4.out (gr_below hb5))
  have ha5 : a4 ≤ 1000 := by omega
  have hfB := fieldB eb et
  have hone := mkHid (srcOne g o c cp a4 z 4 w5 Hs5.out (Hc1.out.grown Hg5.out (Nat.le_refl _)) (by omega) hl (by omega) (by omega))
  clear hEn hb5 Hs4 Hg4 ha4 hP hv
  go_wp2_with fail
  refine hone.out.mono ?_
  rintro e w6 ⟨b, rfl, hs6, hg6⟩
  have HSt : Hid (TxSt w1 g o c.length cp z 800 1001 (.string et) w6) := mkHid ⟨et, a4 + 1, rfl, hes, by omega, hs6, gr_trans Hg5.out hg6⟩
  clear hone hs6 hg6 Hs5 Hg5 hes ha5
  go_simp
  go_upto_if 26 with fail
  go_cut [6] from 7 (fun v wx => Hid (TxSt w1 g o c.length cp z 800 1100 v wx))
  case first =>
    obtain ⟨tq, a6, ht0, ht, ha6, hs, hg6⟩ := HSt.out
    have hte : tq = et := (Value.string.inj ht0).symm
    subst hte
    have Hs := mkHid hs
    have Hg6 := mkHid hg6
    have zg6 : w1.heap.size ≤ w6.heap.size := hg6.size
    have hgl : g < w6.heap.size := hs.lt
    clear hs hg6 ht0
    cases b with
    | false =>
      clear HSt
      go_wp2
      go_meet
      case rel => exact mkHid ⟨tq, a6, rfl, by omega, by omega, Hs.out, Hg6.out⟩
    | true =>
      clear HSt
      have hN := mkHid (srcN g o c cp a6 z 12 w6 Hs.out (Hc1.out.grown Hg6.out (Nat.le_refl _)) (by omega) hl (by omega) (by omega))
      go_wp2_with fail
      refine hN.out.mono ?_
      rintro e w7 ⟨v7, rfl, hv7, hs7, hg7⟩
      have Hs7 := mkHid hs7
      have Hg7 := mkHid (gr_trans Hg6.out hg7)
      have hB := mkHid (srcBytes g o c cp (a6 + 1) z v7 w7 Hs7.out (Hc1.out.grown Hg7.out (Nat.le_refl _)) (by omega) hl (by omega))
      clear hN hs7 hg7 Hs Hg6
      go_wp2_with fail
      refine hB.out.mono ?_
      rintro e w8 ⟨t8, a8, rfl, ht8, ha8, hs8, hg8⟩
      have HS8 : Hid (TxSt w1 g o c.length cp z 800 1100 (.string t8) w8) := mkHid ⟨t8, a8, rfl, by omega, by omega, hs8, gr_trans Hg7.out hg8⟩
      clear hB hs8 hg8 Hs7 Hg7
      go_wp2
      go_meet
      case rel => exact HS8
  case rest =>
    have HS := hcut
    clear HSt hcut
    obtain ⟨X, hX⟩ : ∃ V, V = wc := ⟨_, rfl⟩
    subst hX
    obtain ⟨t, a6, rfl, ht, ha6, hs, hg6⟩ := HS.out
    have hone := mkHid (srcOne g o c cp a6 z 3 X hs (Hc1.out.grown hg6 (Nat.le_refl _)) (by omega) hl (by omega) (by omega))
    have Hg6 := mkHid hg6
    clear hs hg6 HS
    go_wp2_with fail
    refine hone.out.mono ?_
    rintro e w6 ⟨b, rfl, hs6, hg6⟩
    have HSt : Hid (TxSt w1 g o c.length cp z 800 1101 (.string t) w6) := mkHid ⟨t, a6 + 1, rfl, ht, by omega, hs6, gr_trans Hg6.out hg6⟩
    clear hone hs6 hg6 Hg6 ht ha6
    go_simp
    go_upto_if 32 with fail
    go_cut [6] from 7 (fun v wx => Hid (TxSt w1 g o c.length cp z 809 1200 v wx))
    case first =>
      obtain ⟨tq, a6, ht0, ht, ha6, hs, hg6⟩ := HSt.out
      have hte : tq = t := (Value.string.inj ht0).symm
      subst hte
      have Hs := mkHid hs
      have Hg6 := mkHid hg6
      have zg6 : w1.heap.size ≤ w6.heap.size := hg6.size
      have hgl : g < w6.heap.size := hs.lt
      clear hs hg6 ht0
      cases b with
      | false =>
        clear HSt
        go_wp2
        go_meet
        case rel => exact mkHid ⟨tq, a6, rfl, by omega, by omega, Hs.out, Hg6.out⟩
      | true =>
        clear HSt
        have hB := mkHid (srcSpoil g o c cp a6 z tq w6 Hs.out (Hc1.out.grown Hg6.out (Nat.le_refl _)) (by omega) hl (by omega))
        go_wp2_with fail
        refine hB.out.mono ?_
        rintro e w8 ⟨t8, a8, rfl, ht8, ha8, hs8, hg8⟩
        have HS8 : Hid (TxSt w1 g o c.length cp z 809 1200 (.string t8) w8) := mkHid ⟨t8, a8, rfl, by omega, by omega, hs8, gr_trans Hg6.out hg8⟩
        clear hB hs8 hg8 Hs Hg6
        go_wp2
        go_meet
        case rel => exact HS8
    case rest =>
      have HS := hcut
      clear HSt hcut
      obtain ⟨X, hX⟩ : ∃ V, V = wc := ⟨_, rfl⟩
      subst hX
      obtain ⟨t, a6, rfl, ht, ha6, hs, hg6⟩ := HS.out
      have hone := mkHid (srcOne g o c cp a6 z 6 X hs (Hc1.out.grown hg6 (Nat.le_refl _)) (by omega) hl (by omega) (by omega))
      have Hg6 := mkHid hg6
      clear hs hg6 HS
      go_wp2_with fail
      refine hone.out.mono ?_
      rintro e w6 ⟨b, rfl, hs6, hg6⟩
      have HSt : Hid (TxSt w1 g o c.length cp z 809 1201 (.string t) w6) := mkHid ⟨t, a6 + 1, rfl, ht, by omega, hs6, gr_trans Hg6.out hg6⟩
      clear hone hs6 hg6 Hg6 ht ha6
      go_simp
      go_upto_if 37 with fail
      go_cut [6] from 7 (fun v wx => Hid (TxSt w1 g o c.length cp z 813 1300 v wx))
      case first =>
        obtain ⟨tq, a6, ht0, ht, ha6, hs, hg6⟩ := HSt.out
        have hte : tq = t := (Value.string.inj ht0).symm
        subst hte
        have Hs := mkHid hs
        have Hg6 := mkHid hg6
        have zg6 : w1.heap.size ≤ w6.heap.size := hg6.size
        have hgl : g < w6.heap.size := hs.lt
        clear hs hg6 ht0
        cases b with
        | false =>
          clear HSt
          go_wp2
          go_meet
          case rel => exact mkHid ⟨tq, a6, rfl, by omega, by omega, Hs.out, Hg6.out⟩
        | true =>
          clear HSt
          have hbA : ∀ cs, Below w6.heap.size w6 (w6.alloc (.cells cs 9)) := fun cs => (Below.refl _ _).alloc (Nat.le_refl _) _
          have hN := mkHid (fun cs => srcN g o c cp a6 z 8 (w6.alloc (.cells cs 9)) (Hs.out.below (hbA cs)) (Hc1.out.grown (gr_trans Hg6.out (gr_below (hbA cs))) (Nat.le_refl _)) (by omega) hl (by omega) (by omega))
          have HbA := mkHid hbA
          clear hbA
          go_wp2_with fail
          refine (hN.out _).mono ?_
          rintro e w7 ⟨v7, rfl, hv7, hs7, hg7⟩
          obtain ⟨tt, htt, hts⟩ := table_at (M := 4) hg7 hgl (show v7 < 8 by omega) (by decide)
          have hv8 : v7 < 8 := by omega
          have HS8 : Hid (TxSt w1 g o c.length cp z 813 1300 (.string (tq ++ tt)) w7) := mkHid ⟨tq ++ tt, a6 + 1, rfl, by rw [ByteArray.size_append]; omega, by omega, hs7, gr_trans Hg6.out (gr_trans (gr_below (HbA.out _)) hg7)⟩
          clear hN hs7 hg7 Hs Hg6 HbA
          have hlim : ¬ 9223372036854775807 < tq.size + tt.size := by omega
          go_wp2
          go_meet
          case rel => exact HS8
      case rest =>
        have HS := hcut
        clear HSt hcut
        obtain ⟨X, hX⟩ : ∃ V, V = wc := ⟨_, rfl⟩
        subst hX
        obtain ⟨t, a6, rfl, ht, ha6, hs, hg6⟩ := HS.out
        have hone := mkHid (srcOne g o c cp a6 z 15 X hs (Hc1.out.grown hg6 (Nat.le_refl _)) (by omega) hl (by omega) (by omega))
        have Hg6 := mkHid hg6
        clear hs hg6 HS
        go_wp2_with fail
        refine hone.out.mono ?_
        rintro e w6 ⟨b, rfl, hs6, hg6⟩
        have HSt : Hid (TxSt w1 g o c.length cp z 813 1301 (.string t) w6) := mkHid ⟨t, a6 + 1, rfl, ht, by omega, hs6, gr_trans Hg6.out hg6⟩
        clear hone hs6 hg6 Hg6 ht ha6
        go_simp
        obtain ⟨t6, a6, ht0, ht, ha6, hs, hg6⟩ := HSt.out
        have hte : t6 = t := (Value.string.inj ht0).symm
        subst hte
        have Hs := mkHid hs
        have Hg6 := mkHid hg6
        clear hs hg6 HSt ht0
        cases b with
        | false =>
          have HB := mkHid (gr_new (w := w) (by rw [HG.out]; exact Hb1.out) (by rw [HG.out]; exact Hg6.out))
          go_wp2
          go_ret2
          exact ⟨_, t6, rfl, by omega, HB.out⟩
        | true =>
          have hN := mkHid (srcN g o c cp a6 z 8 w6 Hs.out (Hc1.out.grown Hg6.out (Nat.le_refl _)) (by omega) hl (by omega) (by omega))
          go_wp2_with fail
          refine hN.out.mono ?_
          rintro e w7 ⟨v7, rfl, hv7, hs7, hg7⟩
          have HB := mkHid (gr_new (w := w) (by rw [HG.out]; exact Hb1.out) (by rw [HG.out]; exact gr_trans Hg6.out hg7))
          clear hN hs7 hg7 Hs Hg6
          go_wp2
          go_ret2
          exact ⟨_, t6, rfl, by omega, HB.out⟩
end Go.Proofs.YtbppdfjigcelkaaGreatDoor
namespace Go.Proofs.YtbppdfjigcelkaaGreatDoor
open Go.RowKit Go.Lib Go.Maps
namespace Cu
def cut (d : UInt8) : List UInt8 → List UInt8 → List (List UInt8)
  | acc, [] => [acc]
  | acc, c :: r => if c = d then acc :: cut d [] r else cut d (acc ++ [c]) r
def mk (l : List UInt8) : ByteArray := ⟨l.toArray⟩
set_option maxRecDepth 20000 in
theorem cut_len (d : UInt8) : ∀ (l acc : List UInt8), (cut d acc l).length ≤ l.length + 1
  | [], _ => by simp [cut]
  | c :: r, acc => by
    rw [cut]
    split
    · have := cut_len d r []
      simp only [List.length_cons]
      omega
    · have := cut_len d r (acc ++ [c])
      simp only [List.length_cons]
      omega
set_option maxRecDepth 20000 in
theorem cut_ne (d : UInt8) : ∀ (l acc : List UInt8), cut d acc l ≠ []
  | [], _ => by simp [cut]
  | c :: r, acc => by
    rw [cut]
    split
    · simp
    · exact cut_ne d r _
set_option maxRecDepth 20000 in
theorem cut_mem (d : UInt8) : ∀ (l acc p : List UInt8), p ∈ cut d acc l → p.length ≤ acc.length + l.length
  | [], acc, p, h => by
    rw [cut, List.mem_singleton] at h
    rw [h]
    simp
  | c :: r, acc, p, h => by
    rw [cut] at h
    split at h
    · rcases List.mem_cons.1 h with h | h
      · rw [h]; simp
      · have := cut_mem d r [] p h
        simp only [List.length_cons, List.length_nil] at this ⊢
        omega
    · have := cut_mem d r _ p h
      simp only [List.length_cons, List.length_append, List.length_nil] at this ⊢
      omega
set_option maxRecDepth 20000 in
theorem ex_mk (s : ByteArray) (a b : Nat) : s.extract a b = mk ((s.data.toList.drop a).take (b - a)) := by
  unfold mk
  apply ByteArray.ext
  apply Array.toList_inj.1
  rw [ByteArray.data_extract, Array.toList_extract, List.extract_eq_take_drop]
def digit (c : UInt8) : Bool := decide (48 ≤ c.toNat) && decide (c.toNat ≤ 57)
def val : Nat → List UInt8 → Nat
  | n, [] => n
  | n, c :: r => val (n * 10 + (c.toNat - 48)) r
def numI (l : List UInt8) : Int := if l.all digit then (val 0 l : Nat) else -1
def num10 (l : List UInt8) : Int := if l.length = 0 ∨ 10 < l.length then -1 else numI l
set_option maxRecDepth 20000 in
theorem val_lt : ∀ (l : List UInt8) (n : Nat), l.all digit = true → val n l < (n + 1) * 10 ^ l.length
  | [], n, _ => by
    show n < (n + 1) * 10 ^ 0
    omega
  | c :: r, n, h => by
    rw [List.all_cons, Bool.and_eq_true] at h
    obtain ⟨h1, h2⟩ := h
    unfold digit at h1
    simp only [Bool.and_eq_true, decide_eq_true_eq] at h1
    have := val_lt r (n * 10 + (c.toNat - 48)) h2
    show val (n * 10 + (c.toNat - 48)) r < (n + 1) * 10 ^ (r.length + 1)
    rw [Nat.pow_succ]
    refine Nat.lt_of_lt_of_le this ?_
    rw [Nat.mul_comm (10 ^ r.length) 10, ← Nat.mul_assoc]
    exact Nat.mul_le_mul_right _ (by omega)
end Cu
end Go.Proofs.YtbppdfjigcelkaaGreatDoor
namespace Go.Proofs.YtbppdfjigcelkaaGreatDoor
open Go.Lib
namespace Pw
set_option maxRecDepth 20000 in
theorem cut_sp (d : UInt8) : ∀ (l acc : List UInt8), ∃ h t, Pl.sp d l = h :: t ∧ Cu.cut d acc l = (acc ++ h) :: t
  | [], acc => ⟨[], [], rfl, by simp [Cu.cut]⟩
  | c :: r, acc => by
    by_cases hc : c = d
    · obtain ⟨h, t, h1, h2⟩ := cut_sp d r []
      refine ⟨[], Pl.sp d r, ?_, ?_⟩
      · rw [Pl.sp, if_pos hc]
      · rw [Cu.cut, if_pos hc, h2, h1]
        simp
    · obtain ⟨h, t, h1, h2⟩ := cut_sp d r (acc ++ [c])
      refine ⟨c :: h, t, ?_, ?_⟩
      · rw [Pl.sp, if_neg hc, h1]
      · rw [Cu.cut, if_neg hc, h2]
        simp
set_option maxRecDepth 20000 in
theorem sp_cut (d : UInt8) (l : List UInt8) : Pl.sp d l = Cu.cut d [] l := by
  obtain ⟨h, t, h1, h2⟩ := cut_sp d l []
  rw [h1, h2]
  simp
set_option maxRecDepth 20000 in
theorem cut_join (d : UInt8) : ∀ (a acc b : List UInt8), Cu.cut d acc (a ++ d :: b) = Cu.cut d acc a ++ Cu.cut d [] b
  | [], acc, b => by simp [Cu.cut]
  | c :: r, acc, b => by
    rw [List.cons_append, Cu.cut, Cu.cut]
    by_cases hc : c = d
    · rw [if_pos hc, if_pos hc, cut_join d r [] b]
      rfl
    · rw [if_neg hc, if_neg hc, cut_join d r (acc ++ [c]) b]
set_option maxRecDepth 20000 in
/-- A word's parts are its inner text's parts between two signs. -/
theorem word_parts (m : List UInt8) : Cu.cut 63 [] (61 :: 63 :: (m ++ [63, 61])) = [61] :: (Cu.cut 63 [] m ++ [[61]]) := by
  have e : (61 : UInt8) :: 63 :: (m ++ [63, 61]) = [61] ++ 63 :: (m ++ 63 :: [61]) := by simp
  rw [e, cut_join, cut_join]
  rfl
set_option maxRecDepth 20000 in
theorem trim_pre (l : List UInt8) (h : hasPrefix l [61, 63] = true) : l = 61 :: 63 :: trimPrefix l [61, 63] := by
  have h2 := h
  unfold hasPrefix at h
  obtain ⟨t, rfl⟩ := List.isPrefixOf_iff_prefix.1 h
  rw [trimPrefix, if_pos h2]
  rfl
set_option maxRecDepth 20000 in
theorem trim_suf (l : List UInt8) (h : hasSuffix l [63, 61] = true) : l = trimSuffix l [63, 61] ++ [63, 61] := by
  have h2 := h
  unfold hasSuffix at h
  obtain ⟨t, rfl⟩ := List.isSuffixOf_iff_suffix.1 h
  rw [trimSuffix, if_pos h2]
  simp
set_option maxRecDepth 20000 in
theorem word_shape (l : List UInt8) (h1 : hasPrefix l [61, 63] = true) (h2 : hasSuffix (trimPrefix l [61, 63]) [63, 61] = true) : l = 61 :: 63 :: (trimSuffix (trimPrefix l [61, 63]) [63, 61] ++ [63, 61]) := by
  rw [← trim_suf _ h2]
  exact trim_pre l h1
set_option maxRecDepth 20000 in
/-- A text that begins and ends as a word, but in less than four bytes, has no five parts. -/
theorem word_short (l : List UInt8) (h1 : hasPrefix l [61, 63] = true) (h2 : hasSuffix l [63, 61] = true) (h3 : hasSuffix (trimPrefix l [61, 63]) [63, 61] = false) : (Cu.cut 63 [] l).length ≠ 5 := by
  have hp := trim_pre l h1
  have hs := trim_suf l h2
  have hl : l.length < 4 := by
    apply Decidable.byContradiction
    intro hn
    have : hasSuffix (trimPrefix l [61, 63]) [63, 61] = true := by
      unfold hasSuffix
      rw [List.isSuffixOf_iff_suffix]
      have hlen := congrArg List.length hs
      rw [List.length_append] at hlen
      have hlen2 : [(63 : UInt8), 61].length = 2 := rfl
      refine ⟨(trimSuffix l [63, 61]).drop 2, ?_⟩
      have e : trimPrefix l [61, 63] = l.drop 2 := by
        conv => rhs; rw [hp]
        rfl
      rw [e]
      conv => rhs; rw [hs]
      rw [List.drop_append_of_le_length (by omega)]
    rw [this] at h3
    cases h3
  have := Cu.cut_len 63 l []
  omega
end Pw
end Go.Proofs.YtbppdfjigcelkaaGreatDoor
