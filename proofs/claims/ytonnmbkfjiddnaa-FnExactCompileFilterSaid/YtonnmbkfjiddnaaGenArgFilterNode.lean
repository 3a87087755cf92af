
/- Lists of texts and of numbers within an argument: opened. -/

/- FilterNode: as the law has it and as the program has it; handed in, made anew, held against one another. (By tools/gen/structs.py.) -/

/- FilterNode as an argument: opened. (By tools/gen/structs.py.) -/
import Derived.Test.YtonnmbkfjiddnaaGenBase
import Derived.Deep.Slices
import Derived.SliceStrings
import Derived.ChangeSlices
import Derived.ChangeMaps5
import Derived.Carry
import Derived.ChangeOld
import Derived.Lib.SmallJoins
namespace Go.Proofs.Ytonnmbkfjiddnaa
open Go.RowKit Go.Lib Go.ChangeShapes Go.WideShapes
theorem add_zeroG (a : Addr) : a.add 0 = a := by simp [Addr.add]
theorem add_moreG (a : Addr) (j : Nat) : a.add (j + 1) = ⟨a.block, a.off + (j + 1), none⟩ := by
  unfold Addr.add
  simp
theorem block_lt_atG {W : World} {a : Addr} {i : Nat} {v : Value} (h : W.cell? (a.add i) = some v) : a.block < W.heap.size := by
  have hlt : (a.add i).block < W.heap.size := World.block_lt_of_cell? _ _ h
  rw [add_blockG] at hlt
  exact hlt
theorem Try.cells2 : Try.prog.cellsOf 2 = 1 := by kernel_rfl
theorem Try.cells4 : Try.prog.cellsOf 4 = 1 := by kernel_rfl
theorem Try.cells9 : Try.prog.cellsOf 9 = 1 := by kernel_rfl
theorem Try.cells_sStr : Try.prog.cellsOf 34 = 1 := by kernel_rfl
theorem Try.cells_sInt : Try.prog.cellsOf 35 = 1 := by kernel_rfl
theorem open_SStr {H : Type} {enc : TypeId × Value → H} {W : World} {sp : Nat → Bool} {v : Value} {y : DataW H × List MemPlace} {fuel : Nat} (hx : DataW.trod enc Try.prog W 0 sp true fuel 34 [v] = some y) :
    ∃ o F cap, v = .slice o F.length cap ∧ TxL 0 W.heap.size W o F ∧ F.length ≤ maxLen ∧ ∀ f ∈ F, f.size ≤ maxLen := by
  rcases Go.ChangeShapes.open_strings Try.underlying34 Try.underlying9 Try.cells9 hx with ⟨hc, -⟩ | ⟨a', len', cap', zs, hc, -, hl, hm, hz, -, hcell, hsz⟩
  · simp at hc
    subst hc
    exact ⟨none, [], 0, rfl, fun i hi => absurd hi (Nat.not_lt_zero _), Nat.zero_le _, fun f hf => by cases hf⟩
  · simp at hc
    subst hc
    have hlz : len' ≤ zs.length := by rw [hz]; split <;> omega
    refine ⟨some a', zs.take len', cap', by rw [List.length_take]; simp; omega, ?_, by rw [List.length_take]; omega, fun f hf => hsz f (List.mem_of_mem_take hf)⟩
    intro i hi
    rw [List.length_take] at hi
    have hc := hcell i (by omega)
    refine ⟨a', rfl, Nat.zero_le _, block_lt_atG hc, ?_⟩
    rw [hc, List.getElem_take, List.getD_eq_getElem?_getD, List.getElem?_eq_getElem (by omega)]
    rfl
theorem open_SInt {H : Type} {enc : TypeId × Value → H} {W : World} {sp : Nat → Bool} {v : Value} {y : DataW H × List MemPlace} {fuel : Nat} (hx : DataW.trod enc Try.prog W 0 sp true fuel 35 [v] = some y) :
    ∃ o F cap, v = .slice o F.length cap ∧ InL 0 W.heap.size W o F ∧ F.length ≤ maxLen := by
  rcases open_ints Try.underlying35 Try.underlying2 Try.cells2 hx with ⟨hc, -⟩ | ⟨a', len', cap', zs, hc, -, hl, hm, hz, -, hcell, -⟩
  · simp at hc
    subst hc
    exact ⟨none, [], 0, rfl, fun i hi => absurd hi (Nat.not_lt_zero _), Nat.zero_le _⟩
  · simp at hc
    subst hc
    have hlz : len' ≤ zs.length := by rw [hz]; split <;> omega
    refine ⟨some a', zs.take len', cap', by rw [List.length_take]; simp; omega, ?_, by rw [List.length_take]; omega⟩
    intro i hi
    rw [List.length_take] at hi
    have hc := hcell i (by omega)
    refine ⟨a', rfl, Nat.zero_le _, block_lt_atG hc, ?_⟩
    rw [hc, List.getElem_take, List.getD_eq_getElem?_getD, List.getElem?_eq_getElem (by omega)]
    rfl
end Go.Proofs.Ytonnmbkfjiddnaa
namespace Go.Proofs.Ytonnmbkfjiddnaa
open Go.RowKit Go.Lib Go.Maps
structure GFilterNode where
  kind : Int
  num : Int
  matF : Int
  text : ByteArray
  names : List ByteArray
  keys : List ByteArray
  kids : List Int
def GFilterNodeV (n : GFilterNode) (v4 v5 v6 : Value) : Value := .agg #[.int .i64 n.kind, .int .i64 n.num, .int .i64 n.matF, .string n.text, v4, v5, v6]
def GFilterNode.fits (n : GFilterNode) (m : Nat) : Prop := n.text.size ≤ m ∧ n.names.length ≤ m ∧ (∀ t ∈ n.names, t.size ≤ m) ∧ n.keys.length ≤ m ∧ (∀ t ∈ n.keys, t.size ≤ m) ∧ n.kids.length ≤ m
structure GFilterNodeIn (lo hi : Nat) (w : World) (n : GFilterNode) (v4 v5 v6 : Value) : Prop where
  s4 : ∃ a c, v4 = .slice a n.names.length c ∧ TxL lo hi w a n.names
  s5 : ∃ a c, v5 = .slice a n.keys.length c ∧ TxL lo hi w a n.keys
  s6 : ∃ a c, v6 = .slice a n.kids.length c ∧ InL lo hi w a n.kids
theorem GFilterNodeIn.same {lo hi : Nat} {w w' : World} {n : GFilterNode} {v4 v5 v6 : Value} (h : GFilterNodeIn lo hi w n v4 v5 v6) (hs : Same lo hi w w') : GFilterNodeIn lo hi w' n v4 v5 v6 := by
  obtain ⟨⟨a4, c4, e4, t4⟩, ⟨a5, c5, e5, t5⟩, ⟨a6, c6, e6, t6⟩⟩ := h
  exact ⟨⟨a4, c4, e4, t4.same hs⟩, ⟨a5, c5, e5, t5.same hs⟩, ⟨a6, c6, e6, t6.same hs⟩⟩
theorem GFilterNodeIn.mono {lo lo' hi hi' : Nat} {w : World} {n : GFilterNode} {v4 v5 v6 : Value} (h : GFilterNodeIn lo hi w n v4 v5 v6) (hl : lo' ≤ lo) (hh : hi ≤ hi') : GFilterNodeIn lo' hi' w n v4 v5 v6 := by
  obtain ⟨⟨a4, c4, e4, t4⟩, ⟨a5, c5, e5, t5⟩, ⟨a6, c6, e6, t6⟩⟩ := h
  exact ⟨⟨a4, c4, e4, t4.mono hl hh⟩, ⟨a5, c5, e5, t5.mono hl hh⟩, ⟨a6, c6, e6, t6.mono hl hh⟩⟩
structure GFilterNodeAt (w : World) (A : Addr) (n : GFilterNode) (v4 v5 v6 : Value) : Prop where
  c0 : w.cell? A = some (.int .i64 n.kind)
  c1 : w.cell? ⟨A.block, A.off + 1, none⟩ = some (.int .i64 n.num)
  c2 : w.cell? ⟨A.block, A.off + 2, none⟩ = some (.int .i64 n.matF)
  c3 : w.cell? ⟨A.block, A.off + 3, none⟩ = some (.string n.text)
  c4 : w.cell? ⟨A.block, A.off + 4, none⟩ = some (v4)
  c5 : w.cell? ⟨A.block, A.off + 5, none⟩ = some (v5)
  c6 : w.cell? ⟨A.block, A.off + 6, none⟩ = some (v6)
theorem GFilterNodeAt.same {lo hi : Nat} {w w' : World} {A : Addr} {n : GFilterNode} {v4 v5 v6 : Value} (h : GFilterNodeAt w A n v4 v5 v6) (hs : Same lo hi w w') (h1 : lo ≤ A.block) (h2 : A.block < hi) : GFilterNodeAt w' A n v4 v5 v6 :=
  ⟨(hs.cell h1 h2).trans h.c0, (hs.cell (p := ⟨A.block, A.off + 1, none⟩) h1 h2).trans h.c1, (hs.cell (p := ⟨A.block, A.off + 2, none⟩) h1 h2).trans h.c2, (hs.cell (p := ⟨A.block, A.off + 3, none⟩) h1 h2).trans h.c3, (hs.cell (p := ⟨A.block, A.off + 4, none⟩) h1 h2).trans h.c4, (hs.cell (p := ⟨A.block, A.off + 5, none⟩) h1 h2).trans h.c5, (hs.cell (p := ⟨A.block, A.off + 6, none⟩) h1 h2).trans h.c6⟩
def GFilterNodesL (lo hi : Nat) (w : World) (o : Option Addr) (F : List GFilterNode) : Prop := ∀ i (h : i < F.length), ∃ a v4 v5 v6, o = some a ∧ lo ≤ a.block ∧ a.block < hi ∧ GFilterNodeAt w (a.add (i * 7)) F[i] v4 v5 v6 ∧ GFilterNodeIn lo hi w F[i] v4 v5 v6
theorem GFilterNodesL.same {lo hi : Nat} {w w' : World} {o : Option Addr} {F : List GFilterNode} (h : GFilterNodesL lo hi w o F) (hs : Same lo hi w w') : GFilterNodesL lo hi w' o F := by
  intro i hi
  obtain ⟨a, v4, v5, v6, ho, h1, h2, h3, h4⟩ := h i hi
  exact ⟨a, v4, v5, v6, ho, h1, h2, h3.same hs (by rw [add_blockG]; exact h1) (by rw [add_blockG]; exact h2), h4.same hs⟩
theorem GFilterNodesL.mono {lo lo' hi hi' : Nat} {w : World} {o : Option Addr} {F : List GFilterNode} (h : GFilterNodesL lo hi w o F) (hl : lo' ≤ lo) (hh : hi ≤ hi') : GFilterNodesL lo' hi' w o F := by
  intro i hi
  obtain ⟨a, v4, v5, v6, ho, h1, h2, h3, h4⟩ := h i hi
  exact ⟨a, v4, v5, v6, ho, Nat.le_trans hl h1, Nat.lt_of_lt_of_le h2 hh, h3, h4.mono hl hh⟩
theorem GFilterNodesL.below {lo hi B : Nat} {w w' : World} {o : Option Addr} {F : List GFilterNode} (h : GFilterNodesL lo hi w o F) (hb : Below B w w') (hB : hi ≤ B) : GFilterNodesL lo hi w' o F := h.same (Same.of_below hb hB)
set_option maxHeartbeats 1000000 in
theorem lawSzFilterNode (n : GFilterNode) (v4 v5 v6 : Value) (left lo : Nat) (w : World) (hI : GFilterNodeIn lo w.heap.size w n v4 v5 v6) (hf : n.fits maxLen) (hl : left ≤ 1048576) :
    Calls Try.prog 13 #[GFilterNodeV n v4 v5 v6, .int .i64 left] w fun e w' => ∃ r : Int, e = .returned (.int .i64 r) ∧ Hid (r = -1 ∨ ∃ m : Nat, r = m ∧ m ≤ left ∧ n.fits 1048576) ∧ Below w.heap.size w w' := by
  obtain ⟨⟨a4, c4, rfl, t4⟩, ⟨a5, c5, rfl, t5⟩, ⟨a6, c6, rfl, t6⟩⟩ := hI
  obtain ⟨f3_0, f4_0, f4_1, f5_0, f5_1, f6_0⟩ := hf
  have H4 := mkHid fun (w' : World) (hb : Below w.heap.size w w') (m : Nat) (hm : m ≤ 1048576) => lawSzSStr a4 n.names c4 m lo w' ((t4.below hb (Nat.le_refl _)).mono (Nat.le_refl _) hb.size) f4_0 f4_1 hm
  have H5 := mkHid fun (w' : World) (hb : Below w.heap.size w w') (m : Nat) (hm : m ≤ 1048576) => lawSzSStr a5 n.keys c5 m lo w' ((t5.below hb (Nat.le_refl _)).mono (Nat.le_refl _) hb.size) f5_0 f5_1 hm
  have H6 := mkHid fun (w' : World) (_ : Below w.heap.size w w') (m : Nat) (hm : m ≤ 1048576) => lawSzSInt a6 n.kids c6 m w' f6_0 hm
  unfold GFilterNodeV
  unfold maxLen at f3_0
  clear f4_0 f4_1 t4 f5_0 f5_1 t5 f6_0 t6
  obtain ⟨W, hW⟩ : ∃ W, W = w.alloc (.cells #[.int .i64 n.kind, .int .i64 n.num, .int .i64 n.matF, .string n.text, .slice a4 n.names.length c4, .slice a5 n.keys.length c5, .slice a6 n.kids.length c6] 37) := ⟨_, rfl⟩
  have hbW : Below w.heap.size w W := by rw [hW]; exact (Below.refl _ _).alloc (Nat.le_refl _) _
  have hWs : w.heap.size < W.heap.size := by rw [hW]; simp
  have q0_5 : W.cell? ⟨w.heap.size, 5, none⟩ = some (.slice a5 n.keys.length c5) := by rw [hW]; simp
  have q0_6 : W.cell? ⟨w.heap.size, 6, none⟩ = some (.slice a6 n.kids.length c6) := by rw [hW]; simp
  have HW := mkHid hW
  clear hW
  by_cases h3 : left < n.text.size
  · go_enter Try.func13, Try.ntmps13
    go_wp2
    go_ret
    first | rw [← HW.out] | skip
    exact ⟨-1, rfl, .inl rfl, hbW⟩
  · obtain ⟨l3, h3a⟩ : ∃ l : Nat, left - n.text.size = l := ⟨_, rfl⟩
    have h3b : (left : Int) - (n.text.size : Int) = (l3 : Int) := by omega
    have h3c : l3 ≤ left := by omega
    have g3 : Hid (n.text.size ≤ 1048576) := by show _ ≤ _; omega
    clear h3a
    go_enter Try.func13, Try.ntmps13
    go_wp2_with fail
    rw [← HW.out]
    refine (H4.out W hbW l3 (by omega)).mono ?_
    rintro e w1 ⟨r1, rfl, hr1, hb1⟩
    have q1_5 := (hb1.cell (p := ⟨w.heap.size, 5, none⟩) hWs).trans q0_5
    have q1_6 := (hb1.cell (p := ⟨w.heap.size, 6, none⟩) hWs).trans q0_6
    have hz1 : w.heap.size < w1.heap.size := Nat.lt_of_lt_of_le hWs hb1.size
    have hbw1 := hbW.trans (hb1.mono (Nat.le_of_lt hWs))
    clear hb1 HW q0_5 q0_6
    rcases hr1.out with rfl | ⟨m1, rfl, hm1, hf1⟩
    · clear hr1
      go_wp2
      go_ret
      exact ⟨-1, rfl, .inl rfl, hbw1⟩
    · replace hf1 := mkHid hf1
      clear hr1
      go_wp2_with fail
      refine (H5.out w1 hbw1 m1 (by omega)).mono ?_
      rintro e w2 ⟨r2, rfl, hr2, hb2⟩
      have q2_6 := (hb2.cell (p := ⟨w.heap.size, 6, none⟩) hz1).trans q1_6
      have hz2 : w.heap.size < w2.heap.size := Nat.lt_of_lt_of_le hz1 hb2.size
      have hbw2 := hbw1.trans (hb2.mono (Nat.le_of_lt hz1))
      clear hb2 q1_5 q1_6
      rcases hr2.out with rfl | ⟨m2, rfl, hm2, hf2⟩
      · clear hr2
        go_wp2
        go_ret
        exact ⟨-1, rfl, .inl rfl, hbw2⟩
      · replace hf2 := mkHid hf2
        clear hr2
        go_wp2_with fail
        refine (H6.out w2 hbw2 m2 (by omega)).mono ?_
        rintro e w3 ⟨r3, rfl, hr3, hb3⟩
        have hz3 : w.heap.size < w3.heap.size := Nat.lt_of_lt_of_le hz2 hb3.size
        have hbw3 := hbw2.trans (hb3.mono (Nat.le_of_lt hz2))
        clear hb3 q2_6
        rcases hr3.out with rfl | ⟨m3, rfl, hm3, hf3⟩
        · clear hr3
          go_wp2
          go_ret
          exact ⟨-1, rfl, .inl rfl, hbw3⟩
        · replace hf3 := mkHid hf3
          clear hr3
          go_wp2
          go_ret
          exact ⟨_, rfl, .inr ⟨m3, rfl, by omega, g3.out, hf1.out.1, hf1.out.2, hf2.out.1, hf2.out.2, hf3.out⟩, hbw3⟩
set_option maxHeartbeats 1000000 in
theorem lawSzSFilterNode (o : Option Addr) (F : List GFilterNode) (cap left lo : Nat) (w : World) (hF : GFilterNodesL lo w.heap.size w o F) (hlen : F.length ≤ maxLen) (hsz : ∀ f ∈ F, f.fits maxLen) (hl : left ≤ 1048576) :
    Calls Try.prog 4 #[.slice o F.length cap, .int .i64 left] w fun e w' => ∃ r : Int, e = .returned (.int .i64 r) ∧ Hid (r = -1 ∨ ∃ m : Nat, r = m ∧ m ≤ left ∧ F.length ≤ 1048576 ∧ ∀ f ∈ F, f.fits 1048576) ∧ Below w.heap.size w w' := by
  unfold maxLen at hlen
  by_cases hn : left < F.length
  · clear hF hsz
    go_enter Try.func4, Try.ntmps4
    go_wp2
    go_ret
    exact ⟨-1, rfl, Or.inl rfl, Below.refl _ _⟩
  · obtain ⟨l0, hl0⟩ : ∃ l : Nat, left - F.length = l := ⟨_, rfl⟩
    have hl1 : (left : Int) - (F.length : Int) = (l0 : Int) := by omega
    have hl2 : l0 ≤ left := by omega
    have hl3 : F.length ≤ 1048576 := by omega
    have HF := mkHid hF
    have Hsz := mkHid hsz
    clear hF hsz hl0
    go_enter Try.func4, Try.ntmps4
    go_wp2
    clear hl1
    go_loopw [1, 5] (fun l i wr => ∃ (k m : Nat), k ≤ F.length ∧ i = .int .i64 k ∧ m ≤ left ∧ l = .int .i64 m ∧ Hid (∀ j (h : j < F.length), j < k → F[j].fits 1048576) ∧ Below w.heap.size w wr) (fun _ i _ => F.length - (Lib.intOf i).toNat)
    case atStart => exact ⟨0, l0, Nat.zero_le _, rfl, hl2, rfl, fun j h h0 => absurd h0 (Nat.not_lt_zero _), Below.refl _ _⟩
    case round =>
      obtain ⟨k, m, hk, rfl, hm, rfl, hall, hb⟩ := hrel
      by_cases hlt : k < F.length
      · obtain ⟨a, v4, v5, v6, rfl, ha1, ha2, hA, hI⟩ := (HF.out.below hb (Nat.le_refl _)) k hlt
        have hS := mkHid (lawSzFilterNode F[k] v4 v5 v6 m lo wr (hI.mono (Nat.le_refl _) hb.size) (Hsz.out _ (List.getElem_mem hlt)) (by omega))
        have c0 := hA.c0
        have c1 := hA.c1
        have c2 := hA.c2
        have c3 := hA.c3
        have c4 := hA.c4
        have c5 := hA.c5
        have c6 := hA.c6
        clear hA hI
        unfold GFilterNodeV at hS
        generalize hf : F[k] = f at *
        have Hf := mkHid hf
        clear hf
        go_wp2_with fail
        refine hS.out.mono ?_
        rintro e w1 ⟨r1, rfl, hr1, hb1⟩
        have hb2 := mkHid (hb.trans (hb1.mono hb.size))
        clear hS c0 c1 c2 c3 c4 c5 c6 hb1 hb
        rcases hr1.out with rfl | ⟨m1, rfl, hm1, hft⟩
        · clear hr1
          go_wp2
          go_ret
          exact ⟨-1, rfl, Or.inl rfl, hb2.out⟩
        · replace hft := mkHid hft
          clear hr1
          go_wp2
          go_roundw
          case rel =>
            refine ⟨k + 1, m1, by omega, by go_num, by omega, rfl, ?_, hb2.out⟩
            intro j h hj
            by_cases hjk : j < k
            · exact hall.out j h hjk
            · have : j = k := by omega
              subst this
              rw [Hf.out]; exact hft.out
          case measure => simp [Lib.intOf]; omega
      · have Hall : Hid (∀ f ∈ F, f.fits 1048576) := by
          intro t ht
          obtain ⟨j, hj, rfl⟩ := List.getElem_of_mem ht
          exact hall.out j hj (by omega)
        go_wp2
        go_ret
        exact ⟨_, rfl, Or.inr ⟨m, rfl, hm, hl3, Hall.out⟩, hb⟩
set_option maxHeartbeats 4000000 in
set_option maxRecDepth 20000 in
theorem lawToXFilterNode (n : GFilterNode) (u4 : Value) (u5 : Value) (u6 : Value) (lo : Nat) (w : World) (hI : GFilterNodeIn lo w.heap.size w n u4 u5 u6) (hf : n.fits 1048576) :
    Calls Try.prog 17 #[GFilterNodeV n u4 u5 u6] w fun e w' => ∃ v4 v5 v6 : Value, e = .returned (GFilterNodeV n v4 v5 v6) ∧ Hid (GFilterNodeIn w.heap.size w'.heap.size w' n v4 v5 v6) ∧ Below w.heap.size w w' ∧ Hid (Soft w.heap.size w') := by
  obtain ⟨⟨a4, c4, rfl, t4⟩, ⟨a5, c5, rfl, t5⟩, ⟨a6, c6, rfl, t6⟩⟩ := hI
  obtain ⟨f3_0, f4_0, f4_1, f5_0, f5_1, f6_0⟩ := hf
  have H4 := mkHid fun (w' : World) (hb : Below w.heap.size w w') => lawToSXStr a4 n.names c4 lo w' ((t4.below hb (Nat.le_refl _)).mono (Nat.le_refl _) hb.size) f4_0 f4_1
  have H5 := mkHid fun (w' : World) (hb : Below w.heap.size w w') => lawToSXStr a5 n.keys c5 lo w' ((t5.below hb (Nat.le_refl _)).mono (Nat.le_refl _) hb.size) f5_0 f5_1
  have H6 := mkHid fun (w' : World) (hb : Below w.heap.size w w') => lawToSXInt a6 n.kids c6 lo w' ((t6.below hb (Nat.le_refl _)).mono (Nat.le_refl _) hb.size) f6_0
  clear f3_0 f4_0 f4_1 f5_0 f5_1 f6_0 t4 t5 t6
  obtain ⟨G, hG⟩ : ∃ G, w.heap.size = G := ⟨_, rfl⟩
  obtain ⟨V0, hV0⟩ : ∃ W, W = ((w.alloc (.cells #[.int .i64 n.kind, .int .i64 n.num, .int .i64 n.matF, .string n.text, .slice a4 n.names.length c4, .slice a5 n.keys.length c5, .slice a6 n.kids.length c6] 37)).alloc (.cells #[.int .i64 0, .int .i64 0, .int .i64 0, .string ⟨#[]⟩, .slice none 0 0, .slice none 0 0, .slice none 0 0] 44)).alloc (.cells #[.int .i64 n.kind, .int .i64 n.num, .int .i64 n.matF, .string n.text, .slice none 0 0, .slice none 0 0, .slice none 0 0] 44) := ⟨_, rfl⟩
  obtain ⟨hb0, hs0, hP0, hR0, hO0⟩ := three_blocks hG hV0
  have hSf := mkHid (show Soft G V0 by rw [hV0, ← hG]; exact (((Soft.refl _).alloc _ _).alloc _ _).alloc _ _)
  have HV0 := mkHid hV0
  clear hV0
  have hG' := mkHid hG
  unfold GFilterNodeV
  go_enter Try.func17, Try.ntmps17
  go_wp2_with fail
  rw [← HV0.out]
  refine (H4.out V0 (by rw [hG]; exact hb0)).mono ?_
  rintro e w1 ⟨rfl, hT4, hw1, hsf1⟩
  replace hSf := mkHid (hSf.out.call hw1 hsf1.out)
  obtain ⟨g4, hg4⟩ : ∃ g, V0.heap.size = g := ⟨_, rfl⟩
  rw [hg4] at hT4 hw1 hs0 ⊢
  have hw1s := hw1.size
  rw [hg4] at hw1s
  have hP1a := (hw1.block G (by omega)).trans hP0
  have hR1a := (hw1.block (G + 1) (by omega)).trans hR0
  have hO1a := (hw1.block (G + 1 + 1) (by omega)).trans hO0
  have p1_5 : w1.cell? ⟨G, 5, none⟩ = some (.slice a5 n.keys.length c5) := by simp [World.cell?, hP1a]
  have x1_4 : w1.cell? ⟨G + 1 + 1, 4, none⟩ = some (.slice none 0 0) := by simp [World.cell?, hO1a]
  have z1_4 : w1.frozen? ⟨G + 1 + 1, 4, none⟩ = false := by simp [World.frozen?, hO1a]
  obtain ⟨V1, hV1⟩ : ∃ V, V = w1.setCell ⟨G + 1 + 1, 4, none⟩ (.slice (some ⟨g4, 0, none⟩) n.names.length n.names.length) := ⟨_, rfl⟩
  replace hSf := mkHid (show Soft G V1 by rw [hV1]; exact (hSf.out.set _ _ _))
  have hgr1 : w1.grownBy V1 (some (G + 1 + 1)) := by rw [hV1]; exact grG_set _ _ _ _
  have hP1 := (hgr1.block G (by omega) (by simp; omega)).trans hP1a
  have hR1 := (hgr1.block (G + 1) (by omega) (by simp)).trans hR1a
  have hO1 : V1.heap[G + 1 + 1]? = some (.cells #[.int .i64 n.kind, .int .i64 n.num, .int .i64 n.matF, .string n.text, .slice (some ⟨g4, 0, none⟩) n.names.length n.names.length, .slice none 0 0, .slice none 0 0] 44 (0, 0)) := by rw [hV1]; simp [World.setCell, Array.getElem?_modify, hO1a]
  have hs1 : G + 3 ≤ V1.heap.size := Nat.le_trans (Nat.le_trans hs0 hw1s) hgr1.size
  have hb1 : Below G w V1 := (hb0.trans (hw1.mono (by omega))).grown hgr1 (by omega) (fun k hk => by cases hk; omega)
  replace hT4 := mkHid ((hT4.out.same (Same.gr hgr1 (by omega) (Nat.le_refl _))).mono (show G + 3 ≤ _ by omega) hgr1.size)
  replace hV1 := mkHid hV1
  have HV1 := hV1
  clear hP1a hR1a hO1a hP0 hR0 hO0 hw1 HV0 hgr1 hb0
  clear hs0 hg4 hw1s
  go_wp2_with fail
  rw [← HV1.out]
  refine (H5.out V1 (by rw [hG]; exact hb1)).mono ?_
  rintro e w2 ⟨rfl, hT5, hw2, hsf2⟩
  clear x1_4 z1_4 p1_5
  replace hSf := mkHid (hSf.out.call hw2 hsf2.out)
  obtain ⟨g5, hg5⟩ : ∃ g, V1.heap.size = g := ⟨_, rfl⟩
  rw [hg5] at hT5 hw2 hs1 ⊢
  rw [hg5] at hT4
  have hw2s := hw2.size
  rw [hg5] at hw2s
  have hP2a := (hw2.block G (by omega)).trans hP1
  have hR2a := (hw2.block (G + 1) (by omega)).trans hR1
  have hO2a := (hw2.block (G + 1 + 1) (by omega)).trans hO1
  have p2_6 : w2.cell? ⟨G, 6, none⟩ = some (.slice a6 n.kids.length c6) := by simp [World.cell?, hP2a]
  have x2_5 : w2.cell? ⟨G + 1 + 1, 5, none⟩ = some (.slice none 0 0) := by simp [World.cell?, hO2a]
  have z2_5 : w2.frozen? ⟨G + 1 + 1, 5, none⟩ = false := by simp [World.frozen?, hO2a]
  obtain ⟨V2, hV2⟩ : ∃ V, V = w2.setCell ⟨G + 1 + 1, 5, none⟩ (.slice (some ⟨g5, 0, none⟩) n.keys.length n.keys.length) := ⟨_, rfl⟩
  replace hSf := mkHid (show Soft G V2 by rw [hV2]; exact (hSf.out.set _ _ _))
  have hgr2 : w2.grownBy V2 (some (G + 1 + 1)) := by rw [hV2]; exact grG_set _ _ _ _
  have hP2 := (hgr2.block G (by omega) (by simp; omega)).trans hP2a
  have hR2 := (hgr2.block (G + 1) (by omega) (by simp)).trans hR2a
  have hO2 : V2.heap[G + 1 + 1]? = some (.cells #[.int .i64 n.kind, .int .i64 n.num, .int .i64 n.matF, .string n.text, .slice (some ⟨g4, 0, none⟩) n.names.length n.names.length, .slice (some ⟨g5, 0, none⟩) n.keys.length n.keys.length, .slice none 0 0] 44 (0, 0)) := by rw [hV2]; simp [World.setCell, Array.getElem?_modify, hO2a]
  have hs2 : G + 3 ≤ V2.heap.size := Nat.le_trans (Nat.le_trans hs1 hw2s) hgr2.size
  have hb2 : Below G w V2 := (hb1.trans (hw2.mono (by omega))).grown hgr2 (by omega) (fun k hk => by cases hk; omega)
  have hT4 := mkHid (((hT4.out.below hw2 (Nat.le_refl _)).mono (Nat.le_refl _) hw2s |>.same (Same.gr hgr2 (by omega) (Nat.le_refl _))).mono (Nat.le_refl _) hgr2.size)
  replace hT5 := mkHid ((hT5.out.same (Same.gr hgr2 (by omega) (Nat.le_refl _))).mono (show G + 3 ≤ _ by omega) hgr2.size)
  replace hV2 := mkHid hV2
  have HV2 := hV2
  clear hP2a hR2a hO2a hP1 hR1 hO1 hw2 HV1 hgr2 hb1
  clear hs1 hg5 hw2s
  go_wp2_with fail
  rw [← HV2.out]
  refine (H6.out V2 (by rw [hG]; exact hb2)).mono ?_
  rintro e w3 ⟨rfl, hT6, hw3, hsf3⟩
  clear x2_5 z2_5 p2_6
  replace hSf := mkHid (hSf.out.call hw3 hsf3.out)
  obtain ⟨g6, hg6⟩ : ∃ g, V2.heap.size = g := ⟨_, rfl⟩
  rw [hg6] at hT6 hw3 hs2 ⊢
  rw [hg6] at hT4
  rw [hg6] at hT5
  have hw3s := hw3.size
  rw [hg6] at hw3s
  have hP3a := (hw3.block G (by omega)).trans hP2
  have hR3a := (hw3.block (G + 1) (by omega)).trans hR2
  have hO3a := (hw3.block (G + 1 + 1) (by omega)).trans hO2
  have x3_6 : w3.cell? ⟨G + 1 + 1, 6, none⟩ = some (.slice none 0 0) := by simp [World.cell?, hO3a]
  have z3_6 : w3.frozen? ⟨G + 1 + 1, 6, none⟩ = false := by simp [World.frozen?, hO3a]
  obtain ⟨V3, hV3⟩ : ∃ V, V = w3.setCell ⟨G + 1 + 1, 6, none⟩ (.slice (some ⟨g6, 0, none⟩) n.kids.length n.kids.length) := ⟨_, rfl⟩
  replace hSf := mkHid (show Soft G V3 by rw [hV3]; exact (hSf.out.set _ _ _))
  have hgr3 : w3.grownBy V3 (some (G + 1 + 1)) := by rw [hV3]; exact grG_set _ _ _ _
  have hP3 := (hgr3.block G (by omega) (by simp; omega)).trans hP3a
  have hR3 := (hgr3.block (G + 1) (by omega) (by simp)).trans hR3a
  have hO3 : V3.heap[G + 1 + 1]? = some (.cells #[.int .i64 n.kind, .int .i64 n.num, .int .i64 n.matF, .string n.text, .slice (some ⟨g4, 0, none⟩) n.names.length n.names.length, .slice (some ⟨g5, 0, none⟩) n.keys.length n.keys.length, .slice (some ⟨g6, 0, none⟩) n.kids.length n.kids.length] 44 (0, 0)) := by rw [hV3]; simp [World.setCell, Array.getElem?_modify, hO3a]
  have hs3 : G + 3 ≤ V3.heap.size := Nat.le_trans (Nat.le_trans hs2 hw3s) hgr3.size
  have hb3 : Below G w V3 := (hb2.trans (hw3.mono (by omega))).grown hgr3 (by omega) (fun k hk => by cases hk; omega)
  have hT4 := mkHid (((hT4.out.below hw3 (Nat.le_refl _)).mono (Nat.le_refl _) hw3s |>.same (Same.gr hgr3 (by omega) (Nat.le_refl _))).mono (Nat.le_refl _) hgr3.size)
  have hT5 := mkHid (((hT5.out.below hw3 (Nat.le_refl _)).mono (Nat.le_refl _) hw3s |>.same (Same.gr hgr3 (by omega) (Nat.le_refl _))).mono (Nat.le_refl _) hgr3.size)
  replace hT6 := mkHid ((hT6.out.same (Same.gr hgr3 (by omega) (Nat.le_refl _))).mono (show G + 3 ≤ _ by omega) hgr3.size)
  replace hV3 := mkHid hV3
  have HV3 := hV3
  clear hP3a hR3a hO3a hP2 hR2 hO2 hw3 HV2 hgr3 hb2
  clear hs2 hg6 hw3s
  have hgz := grown_setRow V3 (G + 1) #[.int .i64 n.kind, .int .i64 n.num, .int .i64 n.matF, .string n.text, .slice (some ⟨g4, 0, none⟩) n.names.length n.names.length, .slice (some ⟨g5, 0, none⟩) n.keys.length n.keys.length, .slice (some ⟨g6, 0, none⟩) n.kids.length n.kids.length]
  have hSz := mkHid (hSf.out.setRow (G + 1) #[.int .i64 n.kind, .int .i64 n.num, .int .i64 n.matF, .string n.text, .slice (some ⟨g4, 0, none⟩) n.names.length n.names.length, .slice (some ⟨g5, 0, none⟩) n.keys.length n.keys.length, .slice (some ⟨g6, 0, none⟩) n.kids.length n.kids.length])
  clear hSf
  have hbz := mkHid (hb3.grown hgz (by omega) (fun k hk => by cases hk; omega))
  replace hT4 := mkHid ((hT4.out.same (Same.gr hgz (by omega) (Nat.le_refl _))).mono (show G ≤ _ by omega) hgz.size)
  replace hT5 := mkHid ((hT5.out.same (Same.gr hgz (by omega) (Nat.le_refl _))).mono (show G ≤ _ by omega) hgz.size)
  replace hT6 := mkHid ((hT6.out.same (Same.gr hgz (by omega) (Nat.le_refl _))).mono (show G ≤ _ by omega) hgz.size)
  rw [HV3.out] at hT4 hT5 hT6 hbz hSz hO3 hR3
  clear hgz HV3 hV3 hb3 hP3 hs3
  go_wp2_with (first | (refine wpL_load_row rfl 44 _ rfl (G + 1 + 1) _ 44 (0, 0) _ rfl hO3 Try.underlying44 rfl (by kernel_rfl) ?_) | (refine wpL_store_row rfl 44 _ _ rfl (G + 1) _ rfl rfl 44 _ hR3 (by kernel_rfl) rfl (by simp [Value.oneCell']) ?_) | go_in)
  refine bodyPost_ret (v := .agg #[.int .i64 n.kind, .int .i64 n.num, .int .i64 n.matF, .string n.text, .slice (some ⟨g4, 0, none⟩) n.names.length n.names.length, .slice (some ⟨g5, 0, none⟩) n.keys.length n.keys.length, .slice (some ⟨g6, 0, none⟩) n.kids.length n.kids.length]) (results_cell_row Try.results17 _ _ (G + 1) 44 _ (0, 0) _ rfl (setRow_heap _ _ _ _ _ _ hR3) Try.underlying44 rfl (by kernel_rfl)) rfl ?_
  rw [hG]
  exact ⟨_, _, _, rfl, ⟨⟨_, _, rfl, hT4.out⟩, ⟨_, _, rfl, hT5.out⟩, ⟨_, _, rfl, hT6.out⟩⟩, hbz.out, hSz⟩
theorem lawToFilterNode (n : GFilterNode) (u4 : Value) (u5 : Value) (u6 : Value) (lo : Nat) (w : World) (hI : GFilterNodeIn lo w.heap.size w n u4 u5 u6) (hf : n.fits 1048576) :
    Calls Try.prog 17 #[GFilterNodeV n u4 u5 u6] w fun e w' => ∃ v4 v5 v6 : Value, e = .returned (GFilterNodeV n v4 v5 v6) ∧ Hid (GFilterNodeIn w.heap.size w'.heap.size w' n v4 v5 v6) ∧ Below w.heap.size w w' :=
  (lawToXFilterNode n u4 u5 u6 lo w hI hf).mono fun _ _ ⟨v4, v5, v6, h1, h2, h3, _⟩ => ⟨v4, v5, v6, h1, h2, h3⟩
structure GFilterNodeL (f : Nat → Value) (j : Nat) (n : GFilterNode) (v4 v5 v6 : Value) : Prop where
  c0 : f (j * 7) = .int .i64 n.kind
  c1 : f (j * 7 + 1) = .int .i64 n.num
  c2 : f (j * 7 + 2) = .int .i64 n.matF
  c3 : f (j * 7 + 3) = .string n.text
  c4 : f (j * 7 + 4) = v4
  c5 : f (j * 7 + 5) = v5
  c6 : f (j * 7 + 6) = v6
def GFilterNodeSet (w : World) (g k : Nat) (n : GFilterNode) (v4 v5 v6 : Value) : World := (((((((w.setCell ⟨g, k * 7, none⟩ (.int .i64 n.kind)).setCell ⟨g, k * 7 + 1, none⟩ (.int .i64 n.num)).setCell ⟨g, k * 7 + 2, none⟩ (.int .i64 n.matF)).setCell ⟨g, k * 7 + 3, none⟩ (.string n.text)).setCell ⟨g, k * 7 + 4, none⟩ (v4)).setCell ⟨g, k * 7 + 5, none⟩ (v5)).setCell ⟨g, k * 7 + 6, none⟩ (v6))
theorem GFilterNodeRow {w : World} {g t N : Nat} {f : Nat → Value} (h : w.rowIs g t N f) (k : Nat) (n : GFilterNode) (v4 v5 v6 : Value) :
    ∃ f', (GFilterNodeSet w g k n v4 v5 v6).rowIs g t N f' ∧ GFilterNodeL f' k n v4 v5 v6 ∧ ∀ (j : Nat) (m : GFilterNode) (q4 q5 q6 : Value), j ≠ k → GFilterNodeL f j m q4 q5 q6 → GFilterNodeL f' j m q4 q5 q6 := by
  refine ⟨_, (((((((h.set _ _).set _ _).set _ _).set _ _).set _ _).set _ _).set _ _), ?_, ?_⟩
  · constructor <;> simp
  · intro j m q4 q5 q6 hj hl
    obtain ⟨c0, c1, c2, c3, c4, c5, c6⟩ := hl
    constructor <;> rw [if_neg (by omega), if_neg (by omega), if_neg (by omega), if_neg (by omega), if_neg (by omega), if_neg (by omega), if_neg (by omega)] <;> assumption
theorem GFilterNodeGr (w : World) (g k : Nat) (n : GFilterNode) (v4 v5 v6 : Value) : w.grownBy (GFilterNodeSet w g k n v4 v5 v6) (some g) := grG_trans (grG_trans (grG_trans (grG_trans (grG_trans (grG_trans (grG_set _ _ _ _) (grG_set _ _ _ _)) (grG_set _ _ _ _)) (grG_set _ _ _ _)) (grG_set _ _ _ _)) (grG_set _ _ _ _)) (grG_set _ _ _ _)
theorem Try.infoGFilterNode : (Try.prog.info? 44).map (fun i => (i.zero, i.size, i.bytes)) = some (some (.agg #[.int .i64 0, .int .i64 0, .int .i64 0, .string ⟨#[]⟩, .slice none 0 0, .slice none 0 0, .slice none 0 0]), 7, 112) := by kernel_rfl
set_option maxHeartbeats 4000000 in
set_option maxRecDepth 20000 in
theorem lawToSXFilterNode (o : Option Addr) (F : List GFilterNode) (cap lo : Nat) (w : World) (hF : GFilterNodesL lo w.heap.size w o F) (hlen : F.length ≤ 1048576) (hfit : ∀ f ∈ F, f.fits 1048576) :
    Calls Try.prog 6 #[.slice o F.length cap] w fun e w' => e = .returned (.slice (some ⟨w.heap.size, 0, none⟩) F.length F.length) ∧ Hid (GFilterNodesL w.heap.size w'.heap.size w' (some ⟨w.heap.size, 0, none⟩) F) ∧ Below w.heap.size w w' ∧ Hid (Soft w.heap.size w') := by
  obtain ⟨i0, hi, hy0, hy1, hy2⟩ := info_parts Try.infoGFilterNode
  have hmk := run_make (P := Try.prog) w 26 44 i0 _ Try.underlying26 hi hy0 .i64 .i64 F.length F.length (by omega) (Int.le_refl _) (by rw [hy2]; omega) (by omega)
  simp only [Int.toNat_natCast, hy1] at hmk
  have HF := mkHid hF
  have Hfit := mkHid hfit
  clear hF hfit
  obtain ⟨c0, hc0⟩ : ∃ c0, c0 = madeCells (Value.cells (.agg #[.int .i64 0, .int .i64 0, .int .i64 0, .string ⟨#[]⟩, .slice none 0 0, .slice none 0 0, .slice none 0 0])) (F.length * 7) := ⟨_, rfl⟩
  have hcs : c0.size = F.length * 7 := by rw [hc0]; exact size_madeCells _ _
  rw [← hc0] at hmk
  have Hrow0 : Hid (∃ f, (w.alloc (.cells c0 44)).rowIs w.heap.size 44 (F.length * 7) f) := by
    refine ⟨fun j => c0[j]!, ?_⟩
    have := World.rowIs_alloc w c0 44 (fun j => c0[j]!) (fun i hi => by simp [hi])
    rw [hcs] at this
    exact this
  clear hc0 hcs
  go_enter Try.func6, Try.ntmps6
  go_wp2
  clear hmk
  generalize hG : w.heap.size = G at *
  go_loopw [4] (fun i wr => ∃ (k : Nat) (f : Nat → Value), k ≤ F.length ∧ i = .int .i64 k ∧ wr.rowIs G 44 (F.length * 7) f ∧ Hid (∀ j (h : j < F.length), j < k → ∃ v4 v5 v6, GFilterNodeL f j F[j] v4 v5 v6 ∧ GFilterNodeIn (G + 1) wr.heap.size wr F[j] v4 v5 v6) ∧ Below G w wr ∧ Hid (Soft G wr)) (fun i _ => F.length - (Lib.intOf i).toNat)
  case atStart =>
    obtain ⟨f, hx⟩ := Hrow0.out
    exact ⟨0, f, Nat.zero_le _, rfl, hx, fun j h h0 => absurd h0 (Nat.not_lt_zero _), (Below.refl _ _).alloc (by omega) _, by rw [← hG]; exact (Soft.refl _).alloc _ _⟩
  case round =>
    clear Hrow0
    obtain ⟨k, f, hk, rfl, hrow, hall, hb, hSf⟩ := hrel
    by_cases hlt : k < F.length
    · obtain ⟨a, u4, u5, u6, rfl, ha1, ha2, hA, hI⟩ := (HF.out.below hb (Nat.le_refl _)) k hlt
      have hGl := hrow.lt
      have hT := mkHid (lawToXFilterNode F[k] u4 u5 u6 lo wr (hI.mono (Nat.le_refl _) (by omega)) (Hfit.out _ (List.getElem_mem hlt)))
      have c0 := hA.c0
      have c1 := hA.c1
      have c2 := hA.c2
      have c3 := hA.c3
      have c4 := hA.c4
      have c5 := hA.c5
      have c6 := hA.c6
      obtain ⟨⟨a4, k4, rfl, -⟩, ⟨a5, k5, rfl, -⟩, ⟨a6, k6, rfl, -⟩⟩ := hI
      clear hA
      generalize hf : F[k] = n at *
      have Hf := mkHid hf
      clear hf
      unfold GFilterNodeV at hT
      go_wp2_with fail
      refine hT.out.mono ?_
      rintro e w1 ⟨v4, v5, v6, rfl, hTx, hb1, hsf1⟩
      have hTx1 := hTx.out
      obtain ⟨⟨b4, m4, rfl, -⟩, ⟨b5, m5, rfl, -⟩, ⟨b6, m6, rfl, -⟩⟩ := hTx1
      have hrow1 : w1.rowIs G 44 (F.length * 7) f := hrow.of_block (hb1.block G hGl)
      have hgr := GFilterNodeGr w1 G k n (.slice b4 n.names.length m4) (.slice b5 n.keys.length m5) (.slice b6 n.kids.length m6)
      obtain ⟨f', hrow2, hL, hLo⟩ := GFilterNodeRow hrow1 k n (.slice b4 n.names.length m4) (.slice b5 n.keys.length m5) (.slice b6 n.kids.length m6)
      have hb1s := hb1.size
      have hS2 : Hid (Soft G (GFilterNodeSet w1 G k n (.slice b4 n.names.length m4) (.slice b5 n.keys.length m5) (.slice b6 n.kids.length m6))) := ((((((((hSf.out.call hb1 hsf1.out).set _ _ _).set _ _ _).set _ _ _).set _ _ _).set _ _ _).set _ _ _).set _ _ _)
      have hb2 : Below G w (GFilterNodeSet w1 G k n (.slice b4 n.names.length m4) (.slice b5 n.keys.length m5) (.slice b6 n.kids.length m6)) := (hb.trans (hb1.mono (by omega))).grown hgr (by omega) (fun j hj => by cases hj; exact Nat.le_refl _)
      have hIn2 := (hTx.out.mono (show G + 1 ≤ _ by omega) (Nat.le_refl _) |>.same (Same.gr hgr (by omega) (Nat.le_refl _))).mono (Nat.le_refl _) hgr.size
      have Hall : Hid (∀ j (h : j < F.length), j < k + 1 → ∃ v4 v5 v6, GFilterNodeL f' j F[j] v4 v5 v6 ∧ GFilterNodeIn (G + 1) (GFilterNodeSet w1 G k n (.slice b4 n.names.length m4) (.slice b5 n.keys.length m5) (.slice b6 n.kids.length m6)).heap.size (GFilterNodeSet w1 G k n (.slice b4 n.names.length m4) (.slice b5 n.keys.length m5) (.slice b6 n.kids.length m6)) F[j] v4 v5 v6) := by
        intro j h hj
        by_cases hjk : j = k
        · subst hjk
          rw [Hf.out]
          exact ⟨_, _, _, hL, hIn2⟩
        · obtain ⟨h4, h5, h6, hl, hm⟩ := hall.out j h (by omega)
          exact ⟨h4, h5, h6, hLo j _ _ _ _ hjk hl, (((hm.same (Same.of_below hb1 (Nat.le_refl _))).mono (Nat.le_refl _) hb1s).same (Same.gr hgr (by omega) (Nat.le_refl _))).mono (Nat.le_refl _) hgr.size⟩
      have hd := fun (j : Nat) (hj : j < 7) => hrow1.cell (i := k * 7 + j) (by omega)
      have d0 := hd 0 (by omega)
      have d1 := hd 1 (by omega)
      have d2 := hd 2 (by omega)
      have d3 := hd 3 (by omega)
      have d4 := hd 4 (by omega)
      have d5 := hd 5 (by omega)
      have d6 := hd 6 (by omega)
      have z0 := hrow1.frozen (k * 7)
      have z1 := hrow1.frozen (k * 7 + 1)
      have z2 := hrow1.frozen (k * 7 + 2)
      have z3 := hrow1.frozen (k * 7 + 3)
      have z4 := hrow1.frozen (k * 7 + 4)
      have z5 := hrow1.frozen (k * 7 + 5)
      have z6 := hrow1.frozen (k * 7 + 6)
      rw [Nat.add_zero] at d0
      have hadd := add_off G (k * 7)
      replace hrow2 := mkHid hrow2
      replace hb2 := mkHid hb2
      clear hd hrow hrow1 hL hLo hgr hall hb hb1 hb1s hT c0 c1 c2 c3 c4 c5 c6 hTx hIn2
      unfold GFilterNodeSet at hrow2 hb2 hS2 Hall
      go_wp2
      go_roundw
      case rel => exact ⟨k + 1, f', by omega, by go_num, hrow2.out, Hall.out, hb2.out, hS2⟩
      case measure => simp [Lib.intOf]; omega
    · go_wp2
      go_ret
      refine ⟨by rw [hG]; rfl, ?_, by rw [hG]; exact hb, by rw [hG]; exact hSf⟩
      intro i hi
      obtain ⟨v4, v5, v6, hl, hm⟩ := hall.out i hi (by omega)
      refine ⟨⟨w.heap.size, 0, none⟩, v4, v5, v6, rfl, Nat.le_refl _, by rw [hG]; exact hrow.lt, ?_, hm.mono (by rw [hG]; omega) (Nat.le_refl _)⟩
      rw [add_off, hG]
      have hd := fun (j : Nat) (hj : j < 7) => hrow.cell (i := i * 7 + j) (by omega)
      refine ⟨?_, ?_, ?_, ?_, ?_, ?_, ?_⟩
      · have := hd 0 (by omega); rw [Nat.add_zero, hl.c0] at this; exact this
      · have := hd 1 (by omega); rw [hl.c1] at this; exact this
      · have := hd 2 (by omega); rw [hl.c2] at this; exact this
      · have := hd 3 (by omega); rw [hl.c3] at this; exact this
      · have := hd 4 (by omega); rw [hl.c4] at this; exact this
      · have := hd 5 (by omega); rw [hl.c5] at this; exact this
      · have := hd 6 (by omega); rw [hl.c6] at this; exact this
theorem lawToSFilterNode (o : Option Addr) (F : List GFilterNode) (cap lo : Nat) (w : World) (hF : GFilterNodesL lo w.heap.size w o F) (hlen : F.length ≤ 1048576) (hfit : ∀ f ∈ F, f.fits 1048576) :
    Calls Try.prog 6 #[.slice o F.length cap] w fun e w' => e = .returned (.slice (some ⟨w.heap.size, 0, none⟩) F.length F.length) ∧ Hid (GFilterNodesL w.heap.size w'.heap.size w' (some ⟨w.heap.size, 0, none⟩) F) ∧ Below w.heap.size w w' :=
  (lawToSXFilterNode o F cap lo w hF hlen hfit).mono fun _ _ ⟨h1, h2, h3, _⟩ => ⟨h1, h2, h3⟩
set_option maxHeartbeats 1000000 in
theorem lawEqFilterNode (n : GFilterNode) (v4 v5 v6 : Value) (u4 u5 u6 : Value) (lo lo' : Nat) (w : World) (hI : GFilterNodeIn lo w.heap.size w n v4 v5 v6) (hJ : GFilterNodeIn lo' w.heap.size w n u4 u5 u6) (hf : n.fits 1048576) :
    Calls Try.prog 22 #[GFilterNodeV n v4 v5 v6, GFilterNodeV n u4 u5 u6] w fun e w' => e = .returned (.bool true) ∧ Below w.heap.size w w' := by
  obtain ⟨⟨a4, c4, rfl, t4⟩, ⟨a5, c5, rfl, t5⟩, ⟨a6, c6, rfl, t6⟩⟩ := hI
  obtain ⟨⟨b4, d4, rfl, s4⟩, ⟨b5, d5, rfl, s5⟩, ⟨b6, d6, rfl, s6⟩⟩ := hJ
  obtain ⟨f3_0, f4_0, f4_1, f5_0, f5_1, f6_0⟩ := hf
  have H4 := mkHid fun (w' : World) (hb : Below w.heap.size w w') => lawEqSStr a4 b4 n.names c4 d4 lo lo' w' ((t4.below hb (Nat.le_refl _)).mono (Nat.le_refl _) hb.size) ((s4.below hb (Nat.le_refl _)).mono (Nat.le_refl _) hb.size) f4_0
  have H5 := mkHid fun (w' : World) (hb : Below w.heap.size w w') => lawEqSStr a5 b5 n.keys c5 d5 lo lo' w' ((t5.below hb (Nat.le_refl _)).mono (Nat.le_refl _) hb.size) ((s5.below hb (Nat.le_refl _)).mono (Nat.le_refl _) hb.size) f5_0
  have H6 := mkHid fun (w' : World) (hb : Below w.heap.size w w') => lawEqSInt a6 b6 n.kids c6 d6 lo lo' w' ((t6.below hb (Nat.le_refl _)).mono (Nat.le_refl _) hb.size) ((s6.below hb (Nat.le_refl _)).mono (Nat.le_refl _) hb.size) f6_0
  clear f3_0 f4_0 f4_1 f5_0 f5_1 f6_0 t4 s4 t5 s5 t6 s6
  unfold GFilterNodeV
  obtain ⟨W0, hW⟩ : ∃ W, W = (w.alloc (.cells #[.int .i64 n.kind, .int .i64 n.num, .int .i64 n.matF, .string n.text, .slice a4 n.names.length c4, .slice a5 n.keys.length c5, .slice a6 n.kids.length c6] 44)).alloc (.cells #[.int .i64 n.kind, .int .i64 n.num, .int .i64 n.matF, .string n.text, .slice b4 n.names.length d4, .slice b5 n.keys.length d5, .slice b6 n.kids.length d6] 44) := ⟨_, rfl⟩
  obtain ⟨hb0, hs0, hA0, hB0⟩ := two_blocks hW
  have HW := mkHid hW
  clear hW
  go_enter Try.func22, Try.ntmps22
  go_wp2_with fail
  rw [← HW.out]
  refine (H4.out W0 hb0).mono ?_
  rintro e W1 ⟨rfl, hw1⟩
  have hw1s := hw1.size
  have hA1 := (hw1.block w.heap.size (by omega)).trans hA0
  have hB1 := (hw1.block (w.heap.size + 1) (by omega)).trans hB0
  have hb1 := hb0.trans (hw1.mono (by omega))
  have hs1 : w.heap.size + 2 ≤ W1.heap.size := Nat.le_trans hs0 hw1s
  have p1_5 : W1.cell? ⟨w.heap.size, 5, none⟩ = some (.slice a5 n.keys.length c5) := by simp [World.cell?, hA1]
  have q1_5 : W1.cell? ⟨w.heap.size + 1, 5, none⟩ = some (.slice b5 n.keys.length d5) := by simp [World.cell?, hB1]
  clear hA0 hB0 hw1 hs0 hb0 hw1s HW
  go_wp2_with fail
  refine (H5.out W1 hb1).mono ?_
  rintro e W2 ⟨rfl, hw2⟩
  have hw2s := hw2.size
  have hA2 := (hw2.block w.heap.size (by omega)).trans hA1
  have hB2 := (hw2.block (w.heap.size + 1) (by omega)).trans hB1
  have hb2 := hb1.trans (hw2.mono (by omega))
  have hs2 : w.heap.size + 2 ≤ W2.heap.size := Nat.le_trans hs1 hw2s
  have p2_6 : W2.cell? ⟨w.heap.size, 6, none⟩ = some (.slice a6 n.kids.length c6) := by simp [World.cell?, hA2]
  have q2_6 : W2.cell? ⟨w.heap.size + 1, 6, none⟩ = some (.slice b6 n.kids.length d6) := by simp [World.cell?, hB2]
  clear hA1 hB1 hw2 hs1 hb1 hw2s
  clear p1_5 q1_5
  go_wp2_with fail
  refine (H6.out W2 hb2).mono ?_
  rintro e W3 ⟨rfl, hw3⟩
  have hw3s := hw3.size
  have hA3 := (hw3.block w.heap.size (by omega)).trans hA2
  have hB3 := (hw3.block (w.heap.size + 1) (by omega)).trans hB2
  have hb3 := hb2.trans (hw3.mono (by omega))
  have hs3 : w.heap.size + 2 ≤ W3.heap.size := Nat.le_trans hs2 hw3s
  clear hA2 hB2 hw3 hs2 hb2 hw3s
  clear hA3 hB3 hs3
  clear p2_6 q2_6
  go_wp2
  go_ret
  exact ⟨rfl, hb3⟩
set_option maxHeartbeats 2000000 in
set_option maxRecDepth 10000 in
theorem lawEqSFilterNode (a b : Option Addr) (F : List GFilterNode) (cap cap' lo lo' : Nat) (w : World) (hF : GFilterNodesL lo w.heap.size w a F) (hG : GFilterNodesL lo' w.heap.size w b F) (hlen : F.length ≤ 1048576) (hfit : ∀ f ∈ F, f.fits 1048576) :
    Calls Try.prog 9 #[.slice a F.length cap, .slice b F.length cap'] w fun e w' => e = .returned (.bool true) ∧ Below w.heap.size w w' := by
  have HF := mkHid hF
  have HG := mkHid hG
  have Hfit := mkHid hfit
  clear hF hG hfit
  go_enter Try.func9, Try.ntmps9
  go_wp2
  go_loopw [5] (fun i wr => ∃ k : Nat, k ≤ F.length ∧ i = .int .i64 k ∧ Below w.heap.size w wr) (fun i _ => F.length - (Lib.intOf i).toNat)
  case atStart => exact ⟨0, Nat.zero_le _, rfl, Below.refl _ _⟩
  case round =>
    obtain ⟨k, hk, rfl, hb0⟩ := hrel
    by_cases hlt : k < F.length
    · obtain ⟨a', v4, v5, v6, rfl, ha, ha', hA, hI⟩ := (HF.out.below hb0 (Nat.le_refl _)) k hlt
      obtain ⟨b', u4, u5, u6, rfl, hb, hb', hB, hJ⟩ := (HG.out.below hb0 (Nat.le_refl _)) k hlt
      have hE := mkHid fun (w' : World) (hb' : Below wr.heap.size wr w') => lawEqFilterNode F[k] v4 v5 v6 u4 u5 u6 lo lo' w' ((hI.mono (Nat.le_refl _) hb0.size).same (Same.of_below hb' (Nat.le_refl _)) |>.mono (Nat.le_refl _) hb'.size) ((hJ.mono (Nat.le_refl _) hb0.size).same (Same.of_below hb' (Nat.le_refl _)) |>.mono (Nat.le_refl _) hb'.size) (Hfit.out _ (List.getElem_mem hlt))
      have c0 := hA.c0
      have c1 := hA.c1
      have c2 := hA.c2
      have c3 := hA.c3
      have c4 := hA.c4
      have c5 := hA.c5
      have c6 := hA.c6
      have d0 := hB.c0
      have d1 := hB.c1
      have d2 := hB.c2
      have d3 := hB.c3
      have d4 := hB.c4
      have d5 := hB.c5
      have d6 := hB.c6
      clear hA hB hI hJ
      generalize F[k] = n at *
      have cE : Hid (∀ d os, Calls Try.prog 22 #[GFilterNodeV n v4 v5 v6, GFilterNodeV n u4 u5 u6] (Go.Sort.grow (redrawn wr d) os) fun e w'' => e = .returned (.bool true) ∧ ∃ p : Regrown, w'' = Go.Sort.grow (redrawn wr p.d) p.os) := fun d os => Calls.regrown_of (hE.out _ (below_regrown wr d os))
      unfold GFilterNodeV at cE
      go_wp2
      have k0 := cell_regrown c0
      have l0 := cell_regrown d0
      have k1 := cell_regrown c1
      have l1 := cell_regrown d1
      have k2 := cell_regrown c2
      have l2 := cell_regrown d2
      have k3 := cell_regrown c3
      have l3 := cell_regrown d3
      have k4 := cell_regrown c4
      have l4 := cell_regrown d4
      have k5 := cell_regrown c5
      have l5 := cell_regrown d5
      have k6 := cell_regrown c6
      have l6 := cell_regrown d6
      clear hE c0 c1 c2 c3 c4 c5 c6 d0 d1 d2 d3 d4 d5 d6
      refine wp_region_quiet_below (by kernel_rfl) (by kernel_rfl) ?_
      repeat (go_big_quiet_step (exact cE.out _ _))
      refine wpQuiet_nil ?_
      intro _ hw'
      obtain ⟨⟨dq, osq⟩, hw''⟩ := hw'
      subst hw''
      have hbq := mkHid (hb0.trans ((below_regrown wr dq osq).mono hb0.size))
      generalize Go.Sort.grow (redrawn wr dq) osq = wq at *
      clear k0 k1 k2 k3 k4 k5 k6 l0 l1 l2 l3 l4 l5 l6 cE hb0
      go_wp2
      go_roundw
      case rel => exact ⟨k + 1, by omega, by go_num, hbq.out⟩
      case measure => simp [Lib.intOf]; omega
    · go_wp2
      go_ret
      exact ⟨rfl, hb0⟩
end Go.Proofs.Ytonnmbkfjiddnaa
namespace Go.Proofs.Ytonnmbkfjiddnaa
open Go.RowKit Go.Lib Go.ChangeShapes Go.WideShapes
theorem Try.cells_FilterNode : Try.prog.cellsOf 37 = 7 := by kernel_rfl
theorem Try.cells_sFilterNode : Try.prog.cellsOf 22 = 1 := by kernel_rfl
theorem GFilterNode_list {α : Type} {l : List α} (h : l.length = 7) : ∃ c0 c1 c2 c3 c4 c5 c6, l = [c0, c1, c2, c3, c4, c5, c6] := by
  match l, h with
  | [c0, c1, c2, c3, c4, c5, c6], _ => exact ⟨c0, c1, c2, c3, c4, c5, c6, rfl⟩
theorem GFilterNode_of {H : Type} {enc : TypeId × Value → H} {W : World} {sp : Nat → Bool} {k0 : Nat} {cs : List Value} {y : DataW H × List MemPlace} (hlen : cs.length = 7) (h2 : DataW.trod enc Try.prog W 0 sp true k0 37 cs = some y) :
    ∃ (q : GFilterNode) (v4 v5 v6 : Value), cs = [.int .i64 q.kind, .int .i64 q.num, .int .i64 q.matF, .string q.text, v4, v5, v6] ∧ GFilterNodeIn 0 W.heap.size W q v4 v5 v6 ∧ q.fits maxLen := by
  obtain ⟨xs, k, -, -, -, hxl, hf⟩ := DataW.trod_struct Try.underlying37 h2
  obtain ⟨x0, x1, x2, x3, x4, x5, x6, rfl⟩ := GFilterNode_list hlen
  obtain ⟨y0, y1, y2, y3, y4, y5, y6, rfl⟩ := GFilterNode_list (hxl.trans rfl)
  have g0 := hf 0 _ rfl
  simp [Try.cells2] at g0
  obtain ⟨z0, e0, -⟩ := DataW.trod_int Try.underlying2 g0
  have e0 : x0 = .int .i64 z0 := by simpa using e0
  have g1 := hf 1 _ rfl
  simp [Try.cells2] at g1
  obtain ⟨z1, e1, -⟩ := DataW.trod_int Try.underlying2 g1
  have e1 : x1 = .int .i64 z1 := by simpa using e1
  have g2 := hf 2 _ rfl
  simp [Try.cells2] at g2
  obtain ⟨z2, e2, -⟩ := DataW.trod_int Try.underlying2 g2
  have e2 : x2 = .int .i64 z2 := by simpa using e2
  have g3 := hf 3 _ rfl
  simp [Try.cells9] at g3
  obtain ⟨z3, e3, -, b3⟩ := DataW.trod_string Try.underlying9 g3
  have e3 : x3 = .string z3 := by simpa using e3
  have g4 := hf 4 _ rfl
  simp [Try.cells_sStr] at g4
  obtain ⟨o4, z4, c4, e4, t4, l4, b4⟩ := open_SStr g4
  have g5 := hf 5 _ rfl
  simp [Try.cells_sStr] at g5
  obtain ⟨o5, z5, c5, e5, t5, l5, b5⟩ := open_SStr g5
  have g6 := hf 6 _ rfl
  simp [Try.cells_sInt] at g6
  obtain ⟨o6, z6, c6, e6, t6, l6⟩ := open_SInt g6
  subst e0 e1 e2 e3 e4 e5 e6
  exact ⟨⟨z0, z1, z2, z3, z4, z5, z6⟩, _, _, _, rfl, ⟨⟨_, _, rfl, t4⟩, ⟨_, _, rfl, t5⟩, ⟨_, _, rfl, t6⟩⟩, ⟨b3, l4, b4, l5, b5, l6⟩⟩
theorem GFilterNode_arg {H : Type} {enc : TypeId × Value → H} {W : World} {sp : Nat → Bool} {v : Value} {d : DataW H} {ps : List MemPlace} {r : Reach} {b0 : Nat} (hval : Value.okWide Try.prog W r b0 37 v) (h : DataW.Trod enc Try.prog W 0 sp true 37 v d ps) :
    ∃ (q : GFilterNode) (v4 v5 v6 : Value), v = GFilterNodeV q v4 v5 v6 ∧ GFilterNodeIn 0 W.heap.size W q v4 v5 v6 ∧ q.fits maxLen := by
  obtain ⟨cs, rfl, hsz⟩ := Go.WideShapes.okWide_struct Try.underlying37 hval
  obtain ⟨fuel, hf⟩ := h
  obtain ⟨q, v4, v5, v6, e, hIn, hfit⟩ := GFilterNode_of (by simp only [Value.cells]; rw [Array.length_toList]; exact hsz.trans (by kernel_rfl)) hf
  simp only [Value.cells] at e
  have e2 := congrArg List.toArray e
  rw [Array.toArray_toList] at e2
  subst e2
  exact ⟨q, v4, v5, v6, rfl, hIn, hfit⟩
theorem open_SFilterNode {H : Type} {enc : TypeId × Value → H} {W : World} {sp : Nat → Bool} {v : Value} {y : DataW H × List MemPlace} {fuel : Nat} (hx : DataW.trod enc Try.prog W 0 sp true fuel 22 [v] = some y) :
    ∃ o F cap, v = .slice o F.length cap ∧ GFilterNodesL 0 W.heap.size W o F ∧ F.length ≤ maxLen ∧ ∀ f ∈ F, f.fits maxLen := by
  rcases Go.Deep.open_slice Try.underlying22 hx with ⟨hc, -⟩ | ⟨a', len, cap, m, n, D, Pl, hc, -, hl, hm, hmm, -, hall⟩
  · simp at hc
    subst hc
    exact ⟨none, [], 0, rfl, fun i hi => absurd hi (Nat.not_lt_zero _), Nat.zero_le _, fun f hf => by cases hf⟩
  · simp at hc
    subst hc
    have hlm : len ≤ m := by rw [hmm]; split <;> omega
    have each : ∀ i, i < m → ∃ q : GFilterNode, (∃ v4 v5 v6, GFilterNodeAt W (a'.add (i * 7)) q v4 v5 v6 ∧ GFilterNodeIn 0 W.heap.size W q v4 v5 v6) ∧ q.fits maxLen ∧ a'.block < W.heap.size := by
      intro i hi
      obtain ⟨cs', h1, h2⟩ := hall i hi
      rw [Try.cells_FilterNode] at h1
      obtain ⟨_, hlen, hcell⟩ := World.cells?_some h1
      obtain ⟨q, v4, v5, v6, rfl, hIn, hfit⟩ := GFilterNode_of hlen h2
      have d0 := hcell 0 (by omega)
      have d1 := hcell 1 (by omega)
      have d2 := hcell 2 (by omega)
      have d3 := hcell 3 (by omega)
      have d4 := hcell 4 (by omega)
      have d5 := hcell 5 (by omega)
      have d6 := hcell 6 (by omega)
      rw [show (a'.add (i * 7)).add 0 = a'.add (i * 7) from add_zeroG _] at d0
      rw [add_moreG _ 0] at d1
      rw [add_moreG _ 1] at d2
      rw [add_moreG _ 2] at d3
      rw [add_moreG _ 3] at d4
      rw [add_moreG _ 4] at d5
      rw [add_moreG _ 5] at d6
      exact ⟨q, ⟨v4, v5, v6, ⟨by simpa using d0, by simpa using d1, by simpa using d2, by simpa using d3, by simpa using d4, by simpa using d5, by simpa using d6⟩, hIn⟩, hfit, by have := World.block_lt_of_cell? _ _ d0; rw [add_blockG] at this; exact this⟩
    haveI : Inhabited GFilterNode := ⟨⟨0, 0, 0, ⟨#[]⟩, [], [], []⟩⟩
    obtain ⟨q, hq⟩ := Go.Deep.choose_lt each
    refine ⟨some a', (List.range len).map q, cap, by simp, ?_, by simp; omega, ?_⟩
    · intro i hi
      simp at hi
      obtain ⟨⟨v4, v5, v6, x1, x2⟩, -, x3⟩ := hq i (by omega)
      exact ⟨a', v4, v5, v6, rfl, Nat.zero_le _, x3, by simpa using x1, by simpa using x2⟩
    · intro f hf
      simp only [List.mem_map, List.mem_range] at hf
      obtain ⟨i, hi, rfl⟩ := hf
      exact (hq i (by omega)).2.1
end Go.Proofs.Ytonnmbkfjiddnaa
