
/- Lists of a filter's nodes in memory: handed in, made anew, held against one another. -/

/- Lists of a filter's nodes: made anew, held against one another. -/

/- Lists of a filter's nodes held against one another; as an argument. -/

/- Lists of instructions in memory: handed in, made anew, held against one another. -/

/- Lists of instructions: made anew, held against one another. -/
import Derived.Test.YtonnmbkfjiddnaaGenBase
import Derived.Deep.OwnRows
import Derived.Lib.QuietBelow
import Derived.Deep.QuietTactic
import Derived.BigQuiet
namespace Go.Proofs.Ytonnmbkfjiddnaa
open Go.RowKit Go.Lib Go.Maps
structure Nd where
  kind : Int
  num : Int
  mat : Int
  text : ByteArray
  names : List ByteArray
  keys : List ByteArray
  kids : List Int
/-- A node's value: its three lists are given as values. -/
def ndV (n : Nd) (vn vk vd : Value) : Value := .agg #[.int .i64 n.kind, .int .i64 n.num, .int .i64 n.mat, .string n.text, vn, vk, vd]
/-- The three lists of a node, in blocks below B. -/
structure NdIn (B : Nat) (w : World) (n : Nd) (vn vk vd : Value) : Prop where
  names : ∃ a c, vn = .slice a n.names.length c ∧ Tx B w a n.names
  keys : ∃ a c, vk = .slice a n.keys.length c ∧ Tx B w a n.keys
  kids : ∃ a c, vd = .slice a n.kids.length c ∧ Ints B w a n.kids
theorem NdIn.below {B : Nat} {w w' : World} {n : Nd} {vn vk vd : Value} (h : NdIn B w n vn vk vd) (hb : Below B w w') : NdIn B w' n vn vk vd := by
  obtain ⟨⟨a, c, e1, t1⟩, ⟨a2, c2, e2, t2⟩, ⟨a3, c3, e3, t3⟩⟩ := h
  exact ⟨⟨a, c, e1, t1.below hb⟩, ⟨a2, c2, e2, t2.below hb⟩, ⟨a3, c3, e3, t3.below hb⟩⟩
theorem NdIn.mono {B B' : Nat} {w : World} {n : Nd} {vn vk vd : Value} (h : NdIn B w n vn vk vd) (hB : B ≤ B') : NdIn B' w n vn vk vd := by
  obtain ⟨⟨a, c, e1, t1⟩, ⟨a2, c2, e2, t2⟩, ⟨a3, c3, e3, t3⟩⟩ := h
  exact ⟨⟨a, c, e1, t1.mono hB⟩, ⟨a2, c2, e2, t2.mono hB⟩, ⟨a3, c3, e3, t3.mono hB⟩⟩
/-- The seven cells of a node. -/
structure NdAt (w : World) (A : Addr) (n : Nd) (vn vk vd : Value) : Prop where
  c0 : w.cell? A = some (.int .i64 n.kind)
  c1 : w.cell? ⟨A.block, A.off + 1, none⟩ = some (.int .i64 n.num)
  c2 : w.cell? ⟨A.block, A.off + 2, none⟩ = some (.int .i64 n.mat)
  c3 : w.cell? ⟨A.block, A.off + 3, none⟩ = some (.string n.text)
  c4 : w.cell? ⟨A.block, A.off + 4, none⟩ = some vn
  c5 : w.cell? ⟨A.block, A.off + 5, none⟩ = some vk
  c6 : w.cell? ⟨A.block, A.off + 6, none⟩ = some vd
theorem NdAt.below {B : Nat} {w w' : World} {A : Addr} {n : Nd} {vn vk vd : Value} (h : NdAt w A n vn vk vd) (hb : Below B w w') (hA : A.block < B) : NdAt w' A n vn vk vd :=
  ⟨(hb.cell hA).trans h.c0, (hb.cell (p := ⟨A.block, A.off + 1, none⟩) hA).trans h.c1, (hb.cell (p := ⟨A.block, A.off + 2, none⟩) hA).trans h.c2, (hb.cell (p := ⟨A.block, A.off + 3, none⟩) hA).trans h.c3, (hb.cell (p := ⟨A.block, A.off + 4, none⟩) hA).trans h.c4, (hb.cell (p := ⟨A.block, A.off + 5, none⟩) hA).trans h.c5, (hb.cell (p := ⟨A.block, A.off + 6, none⟩) hA).trans h.c6⟩
/-- The slice's elements, below a block, are these nodes. -/
def Nds (B : Nat) (w : World) (o : Option Addr) (F : List Nd) : Prop :=
  ∀ i (h : i < F.length), ∃ a vn vk vd, o = some a ∧ a.block < B ∧ NdAt w (a.add (i * 7)) F[i] vn vk vd ∧ NdIn B w F[i] vn vk vd
theorem add_blockN (a : Addr) (n : Nat) : (a.add n).block = a.block := by unfold Addr.add; split <;> rfl
theorem Nds.below {B : Nat} {w w' : World} {o : Option Addr} {F : List Nd} (h : Nds B w o F) (hb : Below B w w') : Nds B w' o F := by
  intro i hi
  obtain ⟨a, vn, vk, vd, ho, ha, h1, h2⟩ := h i hi
  exact ⟨a, vn, vk, vd, ho, ha, h1.below hb (by rw [add_blockN]; exact ha), h2.below hb⟩
theorem Nds.mono {B B' : Nat} {w : World} {o : Option Addr} {F : List Nd} (h : Nds B w o F) (hB : B ≤ B') : Nds B' w o F := by
  intro i hi
  obtain ⟨a, vn, vk, vd, ho, ha, h1, h2⟩ := h i hi
  exact ⟨a, vn, vk, vd, ho, by omega, h1, h2.mono hB⟩
/-- Small enough to be looked at. -/
def Nd.fits (n : Nd) (m : Nat) : Prop := n.text.size ≤ m ∧ n.names.length ≤ m ∧ (∀ t ∈ n.names, t.size ≤ m) ∧ n.keys.length ≤ m ∧ (∀ t ∈ n.keys, t.size ≤ m) ∧ n.kids.length ≤ m
set_option maxHeartbeats 1000000 in
theorem lawSzNode (n : Nd) (vn vk vd : Value) (left : Nat) (w : World) (hI : NdIn w.heap.size w n vn vk vd) (hf : n.fits maxLen) (hl : left ≤ 1048576) :
    Calls Try.prog 13 #[ndV n vn vk vd, .int .i64 left] w fun e w' => ∃ r : Int, e = .returned (.int .i64 r) ∧ Hid (r = -1 ∨ ∃ m : Nat, r = m ∧ m ≤ left ∧ n.fits 1048576) ∧ Below w.heap.size w w' := by
  obtain ⟨⟨a1, c1, rfl, t1⟩, ⟨a2, c2, rfl, t2⟩, ⟨a3, c3, rfl, -⟩⟩ := hI
  obtain ⟨f1, f2, f3, f4, f5, f6⟩ := hf
  unfold maxLen at f1
  have HT1 := mkHid fun (w' : World) (hb : Below w.heap.size w w') (m : Nat) (hm : m ≤ 1048576) => lawSzTextsB a1 n.names c1 m w' ((t1.below hb).mono hb.size) f2 f3 hm
  have HT2 := mkHid fun (w' : World) (hb : Below w.heap.size w w') (m : Nat) (hm : m ≤ 1048576) => lawSzTextsB a2 n.keys c2 m w' ((t2.below hb).mono hb.size) f4 f5 hm
  have HT3 := mkHid fun (w' : World) (m : Nat) (hm : m ≤ 1048576) => lawSzInts a3 n.kids.length c3 m w' f6 hm
  clear t1 t2 f2 f3 f4 f5 f6
  unfold ndV
  by_cases h1 : left < n.text.size
  · go_enter Try.func13, Try.ntmps13
    go_wp2
    go_ret
    exact ⟨-1, rfl, .inl rfl, (Below.refl _ _).alloc (Nat.le_refl _) _⟩
  · obtain ⟨l1, hl1⟩ : ∃ l1 : Nat, left - n.text.size = l1 := ⟨_, rfl⟩
    have hl2 : (left : Int) - (n.text.size : Int) = (l1 : Int) := by omega
    have hl3 : l1 ≤ left := by omega
    have hf0 : Hid (n.text.size ≤ 1048576) := by show _ ≤ _; omega
    obtain ⟨W, hW⟩ : ∃ W, W = w.alloc (.cells #[.int .i64 n.kind, .int .i64 n.num, .int .i64 n.mat, .string n.text, .slice a1 n.names.length c1, .slice a2 n.keys.length c2, .slice a3 n.kids.length c3] 37) := ⟨_, rfl⟩
    have hbW : Below w.heap.size w W := by rw [hW]; exact (Below.refl _ _).alloc (Nat.le_refl _) _
    have hWs : w.heap.size < W.heap.size := by rw [hW]; simp
    have q5 : W.cell? ⟨w.heap.size, 5, none⟩ = some (.slice a2 n.keys.length c2) := by rw [hW]; simp
    have q6 : W.cell? ⟨w.heap.size, 6, none⟩ = some (.slice a3 n.kids.length c3) := by rw [hW]; simp
    have hW := mkHid hW
    go_enter Try.func13, Try.ntmps13
    go_wp2_with fail
    rw [← hW.out]
    refine (HT1.out W hbW l1 (by omega)).mono ?_
    rintro e w1 ⟨r1, rfl, hr1, hb1⟩
    have p5 := (hb1.cell (p := ⟨w.heap.size, 5, none⟩) hWs).trans q5
    have p6 := (hb1.cell (p := ⟨w.heap.size, 6, none⟩) hWs).trans q6
    have hs1 := hb1.size
    have hbw1 := hbW.trans (hb1.mono (Nat.le_of_lt hWs))
    clear q5 q6 hb1 hW
    rcases hr1 with rfl | ⟨g1, g2, g3, g4⟩
    · go_wp2
      go_ret
      exact ⟨-1, rfl, .inl rfl, hbw1⟩
    · obtain ⟨l2, rfl⟩ : ∃ l2 : Nat, r1 = l2 := ⟨r1.toNat, by omega⟩
      replace g4 := mkHid g4
      go_wp2_with fail
      refine (HT2.out w1 hbw1 l2 (by omega)).mono ?_
      rintro e w2 ⟨r2, rfl, hr2, hb2⟩
      have s6 := (hb2.cell (p := ⟨w.heap.size, 6, none⟩) (Nat.lt_of_lt_of_le hWs hs1)).trans p6
      have hbw2 := hbw1.trans (hb2.mono (Nat.le_trans (Nat.le_of_lt hWs) hs1))
      clear p5 p6 hb2
      rcases hr2 with rfl | ⟨k1, k2, k3, k4⟩
      · go_wp2
        go_ret
        exact ⟨-1, rfl, .inl rfl, hbw2⟩
      · obtain ⟨l3, rfl⟩ : ∃ l3 : Nat, r2 = l3 := ⟨r2.toNat, by omega⟩
        replace k4 := mkHid k4
        go_wp2_with fail
        refine (HT3.out w2 l3 (by omega)).mono ?_
        rintro e w3 ⟨r3, rfl, hr3, hb3⟩
        have hbw3 := hbw2.trans (hb3.mono hbw2.size)
        clear hb3 s6
        rcases hr3 with rfl | ⟨m1, m2, m3⟩
        · go_wp2
          go_ret
          exact ⟨-1, rfl, .inl rfl, hbw3⟩
        · obtain ⟨l4, rfl⟩ : ∃ l4 : Nat, r3 = l4 := ⟨r3.toNat, by omega⟩
          go_wp2
          go_ret
          exact ⟨_, rfl, .inr ⟨l4, rfl, by omega, hf0.out, g3, g4.out, k3, k4.out, m3⟩, hbw3⟩
set_option maxHeartbeats 1000000 in
theorem lawSzNodes (o : Option Addr) (F : List Nd) (cap : Nat) (w : World) (hF : Nds w.heap.size w o F) (hlen : F.length ≤ maxLen) (hsz : ∀ f ∈ F, f.fits maxLen) :
    Calls Try.prog 4 #[.slice o F.length cap, .int .i64 1048576] w fun e w' => ∃ r : Int, e = .returned (.int .i64 r) ∧ Hid (r = -1 ∨ 0 ≤ r ∧ F.length ≤ 1048576 ∧ ∀ f ∈ F, f.fits 1048576) ∧ Below w.heap.size w w' := by
  unfold maxLen at hlen
  by_cases hn : 1048576 < F.length
  · clear hF hsz
    go_enter Try.func4, Try.ntmps4
    go_wp2
    go_ret
    exact ⟨-1, rfl, Or.inl rfl, Below.refl _ _⟩
  · have HF : Hid (Nds w.heap.size w o F) := hF
    have Hsz : Hid (∀ f ∈ F, f.fits maxLen) := hsz
    clear hF hsz
    go_enter Try.func4, Try.ntmps4
    go_wp2
    go_loopw [1, 5] (fun l i wr => ∃ (k m : Nat), k ≤ F.length ∧ i = .int .i64 k ∧ m ≤ 1048576 ∧ l = .int .i64 m ∧ Hid (∀ j (h : j < F.length), j < k → F[j].fits 1048576) ∧ Below w.heap.size w wr) (fun _ i _ => F.length - (Lib.intOf i).toNat)
    case atStart => exact ⟨0, 1048576 - F.length, Nat.zero_le _, rfl, by omega, by go_num, fun j h h0 => absurd h0 (Nat.not_lt_zero _), Below.refl _ _⟩
    case round =>
      obtain ⟨k, m, hk, rfl, hm, rfl, hall, hb⟩ := hrel
      by_cases hlt : k < F.length
      · obtain ⟨a, vn, vk, vd, rfl, ha, hA, hI⟩ := (HF.out.below hb) k hlt
        have hS := mkHid fun (w' : World) (hb' : Below wr.heap.size wr w') => lawSzNode F[k] vn vk vd m w' (((hI.mono hb.size).below hb').mono hb'.size) (Hsz.out _ (List.getElem_mem hlt)) hm
        have c0 := hA.c0
        have c1 := hA.c1
        have c2 := hA.c2
        have c3 := hA.c3
        have c4 := hA.c4
        have c5 := hA.c5
        have c6 := hA.c6
        clear hA hI
        generalize hf : F[k] = f at *
        have Hf := mkHid hf
        clear hf
        go_wp2_with fail
        refine (hS.out wr (Below.refl _ _)).mono ?_
        rintro e w1 ⟨r1, rfl, hr1, hb1⟩
        have hb2 := mkHid (hb.trans (hb1.mono hb.size))
        clear hS c0 c1 c2 c3 c4 c5 c6 hb1 hb
        rcases hr1.out with rfl | ⟨m1, rfl, hm1, hft⟩
        · go_wp2
          go_ret
          exact ⟨-1, rfl, Or.inl rfl, hb2.out⟩
        · replace hft := mkHid hft
          clear hr1
          go_wp2
          go_roundw
          case rel =>
            refine ⟨k + 1, m1, by omega, by go_num, by omega, rfl, ?_, hb2.out⟩
            intro j h hj
            by_cases hjk : j < k
            · exact hall.out j h hjk
            · have : j = k := by omega
              subst this
              rw [Hf.out]; exact hft.out
          case measure => simp [Lib.intOf]; omega
      · have Hall : Hid (∀ f ∈ F, f.fits 1048576) := by
          intro t ht
          obtain ⟨j, hj, rfl⟩ := List.getElem_of_mem ht
          exact hall.out j hj (by omega)
        go_wp2
        go_ret
        exact ⟨_, rfl, Or.inr ⟨by omega, by omega, Hall.out⟩, hb⟩
theorem hp_allocN (w : World) (o : Obj) : (w.alloc o).heap[w.heap.size]? = some o := by
  show (w.heap.push o)[w.heap.size]? = some o
  simp
theorem hp_setN (w : World) (g j k : Nat) (v : Value) (h : g ≠ k) : (w.setCell ⟨g, j, none⟩ v).heap[k]? = w.heap[k]? := by
  simp [World.setCell, Array.getElem?_modify, h]
theorem Tx.setN {B g b j : Nat} {w : World} {v : Value} {ps : List ByteArray} (h : Tx B w (some ⟨g, 0, none⟩) ps) (hne : b ≠ g) : Tx B (w.setCell ⟨b, j, none⟩ v) (some ⟨g, 0, none⟩) ps := by
  intro k hk
  obtain ⟨a, e, ha, hc⟩ := h k hk
  cases e
  refine ⟨_, rfl, ha, ?_⟩
  rw [← hc, add_off]
  unfold World.cell?
  rw [show (⟨g, k, none⟩ : Addr).block = g from rfl, hp_setN _ _ _ _ _ hne]
theorem Tx.rowN {B g b : Nat} {w : World} {cs : Array Value} {ps : List ByteArray} (h : Tx B w (some ⟨g, 0, none⟩) ps) (hne : b ≠ g) : Tx B (w.setRow b cs) (some ⟨g, 0, none⟩) ps := by
  intro k hk
  obtain ⟨a, e, ha, hc⟩ := h k hk
  cases e
  refine ⟨_, rfl, ha, ?_⟩
  rw [← hc, add_off]
  unfold World.cell?
  rw [show (⟨g, k, none⟩ : Addr).block = g from rfl, setRow_other w b g cs hne.symm]
theorem Ints.rowN {B g b : Nat} {w : World} {cs : Array Value} {ps : List Int} (h : Ints B w (some ⟨g, 0, none⟩) ps) (hne : b ≠ g) : Ints B (w.setRow b cs) (some ⟨g, 0, none⟩) ps := by
  intro k hk
  obtain ⟨a, e, ha, hc⟩ := h k hk
  cases e
  refine ⟨_, rfl, ha, ?_⟩
  rw [← hc, add_off]
  unfold World.cell?
  rw [show (⟨g, k, none⟩ : Addr).block = g from rfl, setRow_other w b g cs hne.symm]
theorem Ints.setN {B g b j : Nat} {w : World} {v : Value} {ps : List Int} (h : Ints B w (some ⟨g, 0, none⟩) ps) (hne : b ≠ g) : Ints B (w.setCell ⟨b, j, none⟩ v) (some ⟨g, 0, none⟩) ps := by
  intro k hk
  obtain ⟨a, e, ha, hc⟩ := h k hk
  cases e
  refine ⟨_, rfl, ha, ?_⟩
  rw [← hc, add_off]
  unfold World.cell?
  rw [show (⟨g, k, none⟩ : Addr).block = g from rfl, hp_setN _ _ _ _ _ hne]
set_option maxHeartbeats 4000000 in
set_option maxRecDepth 20000 in
theorem lawToNode (n : Nd) (vn vk vd : Value) (w : World) (hI : NdIn w.heap.size w n vn vk vd) (hf : n.fits 1048576) :
    Calls Try.prog 17 #[ndV n vn vk vd] w fun e w' => ∃ g1 g2 g3 : Nat, e = .returned (ndV n (.slice (some ⟨g1, 0, none⟩) n.names.length n.names.length) (.slice (some ⟨g2, 0, none⟩) n.keys.length n.keys.length) (.slice (some ⟨g3, 0, none⟩) n.kids.length n.kids.length)) ∧ Hid ((w.heap.size < g1 ∧ w.heap.size < g2 ∧ w.heap.size < g3) ∧ Tx w'.heap.size w' (some ⟨g1, 0, none⟩) n.names ∧ Tx w'.heap.size w' (some ⟨g2, 0, none⟩) n.keys ∧ Ints w'.heap.size w' (some ⟨g3, 0, none⟩) n.kids) ∧ Below w.heap.size w w' := by
  obtain ⟨⟨a1, c1, rfl, t1⟩, ⟨a2, c2, rfl, t2⟩, ⟨a3, c3, rfl, t3⟩⟩ := hI
  obtain ⟨f1, f2, f3, f4, f5, f6⟩ := hf
  have HT1 := mkHid fun (w' : World) (hb : Below w.heap.size w w') => lawToTexts a1 n.names c1 w' ((t1.below hb).mono hb.size) f2
  have HT2 := mkHid fun (w' : World) (hb : Below w.heap.size w w') => lawToTexts a2 n.keys c2 w' ((t2.below hb).mono hb.size) f4
  have HT3 := mkHid fun (w' : World) (hb : Below w.heap.size w w') => lawToInts a3 n.kids c3 w' ((t3.below hb).mono hb.size) f6
  clear t1 t2 t3 f3 f5
  obtain ⟨G, hG⟩ : ∃ G, w.heap.size = G := ⟨_, rfl⟩
  obtain ⟨W, hW⟩ : ∃ W, W = ((w.alloc (.cells #[.int .i64 n.kind, .int .i64 n.num, .int .i64 n.mat, .string n.text, .slice a1 n.names.length c1, .slice a2 n.keys.length c2, .slice a3 n.kids.length c3] 37)).alloc (.cells #[.int .i64 0, .int .i64 0, .int .i64 0, .string ⟨#[]⟩, .slice none 0 0, .slice none 0 0, .slice none 0 0] 44)).alloc (.cells #[Value.int .i64 n.kind, .int .i64 n.num, .int .i64 n.mat, .string n.text, .slice none 0 0, .slice none 0 0, .slice none 0 0] 44) := ⟨_, rfl⟩
  have hbW : Below w.heap.size w W := by rw [hW]; exact (((Below.refl _ _).alloc (Nat.le_refl _) _).alloc (by simp) _).alloc (by simp; omega) _
  have hWs : W.heap.size = G + 3 := by rw [hW, ← hG]; simp
  have hP : W.heap[G]? = some (.cells #[.int .i64 n.kind, .int .i64 n.num, .int .i64 n.mat, .string n.text, .slice a1 n.names.length c1, .slice a2 n.keys.length c2, .slice a3 n.kids.length c3] 37 (0, 0)) := by rw [hW, ← hG]; exact (Below.heap_alloc _ _ _ (by simp; omega)).trans ((Below.heap_alloc _ _ _ (by simp)).trans (hp_allocN _ _))
  have hR : W.heap[G + 1]? = some (.cells #[.int .i64 0, .int .i64 0, .int .i64 0, .string ⟨#[]⟩, .slice none 0 0, .slice none 0 0, .slice none 0 0] 44 (0, 0)) := by
    rw [hW]
    refine (Below.heap_alloc _ _ _ (by simp; omega)).trans ?_
    rw [show G + 1 = (w.alloc (.cells #[.int .i64 n.kind, .int .i64 n.num, .int .i64 n.mat, .string n.text, .slice a1 n.names.length c1, .slice a2 n.keys.length c2, .slice a3 n.kids.length c3] 37)).heap.size by simp; omega]
    exact hp_allocN _ _
  have hO : W.heap[G + 1 + 1]? = some (.cells #[Value.int .i64 n.kind, .int .i64 n.num, .int .i64 n.mat, .string n.text, .slice none 0 0, .slice none 0 0, .slice none 0 0] 44 (0, 0)) := by
    rw [hW]
    rw [show G + 1 + 1 = ((w.alloc (.cells #[.int .i64 n.kind, .int .i64 n.num, .int .i64 n.mat, .string n.text, .slice a1 n.names.length c1, .slice a2 n.keys.length c2, .slice a3 n.kids.length c3] 37)).alloc (.cells #[.int .i64 0, .int .i64 0, .int .i64 0, .string ⟨#[]⟩, .slice none 0 0, .slice none 0 0, .slice none 0 0] 44)).heap.size by simp; omega]
    exact hp_allocN _ _
  have HW := mkHid hW
  clear hW
  have hG' := mkHid hG
  have e1 : w.heap.size + 1 = G + 1 := by omega
  have e2 : w.heap.size + 1 + 1 = G + 2 := by omega
  unfold ndV
  go_enter Try.func17, Try.ntmps17
  go_wp2_with fail
  rw [← HW.out]
  refine (HT1.out W hbW).mono ?_
  rintro e w1 ⟨rfl, hT1, hb1⟩
  rw [hWs] at hT1 hb1 ⊢
  have hs1 := hb1.size
  rw [hWs] at hs1
  have hP0 := hP
  have hR0 := hR
  have hO0 := hO
  have hP1 : w1.heap[G]? = some (.cells #[.int .i64 n.kind, .int .i64 n.num, .int .i64 n.mat, .string n.text, .slice a1 n.names.length c1, .slice a2 n.keys.length c2, .slice a3 n.kids.length c3] 37 (0, 0)) := (hb1.block G (by omega)).trans hP0
  have hR1 : w1.heap[G + 1]? = some (.cells #[.int .i64 0, .int .i64 0, .int .i64 0, .string ⟨#[]⟩, .slice none 0 0, .slice none 0 0, .slice none 0 0] 44 (0, 0)) := (hb1.block (G + 1) (by omega)).trans hR0
  have hO1 : w1.heap[G + 1 + 1]? = some (.cells #[Value.int .i64 n.kind, .int .i64 n.num, .int .i64 n.mat, .string n.text, .slice none 0 0, .slice none 0 0, .slice none 0 0] 44 (0, 0)) := (hb1.block (G + 1 + 1) (by omega)).trans hO0
  have x1 : w1.cell? ⟨G + 1 + 1, 4, none⟩ = some (.slice none 0 0) := by simp [World.cell?, hO1]
  have z1 : w1.frozen? ⟨G + 1 + 1, 4, none⟩ = false := by simp [World.frozen?, hO1]
  have y1 : w1.cell? ⟨G, 5, none⟩ = some (.slice a2 n.keys.length c2) := by simp [World.cell?, hP1]
  obtain ⟨V1, hV1⟩ : ∃ V, V = w1.setCell ⟨G + 1 + 1, 4, none⟩ (.slice (some ⟨G + 3, 0, none⟩) n.names.length n.names.length) := ⟨_, rfl⟩
  have hP1b : V1.heap[G]? = some (.cells #[.int .i64 n.kind, .int .i64 n.num, .int .i64 n.mat, .string n.text, .slice a1 n.names.length c1, .slice a2 n.keys.length c2, .slice a3 n.kids.length c3] 37 (0, 0)) := by rw [hV1]; exact (hp_setN _ _ _ _ _ (by omega)).trans hP1
  have hR1b : V1.heap[G + 1]? = some (.cells #[.int .i64 0, .int .i64 0, .int .i64 0, .string ⟨#[]⟩, .slice none 0 0, .slice none 0 0, .slice none 0 0] 44 (0, 0)) := by rw [hV1]; exact (hp_setN _ _ _ _ _ (by omega)).trans hR1
  have hO1b : V1.heap[G + 1 + 1]? = some (.cells #[Value.int .i64 n.kind, .int .i64 n.num, .int .i64 n.mat, .string n.text, .slice (some ⟨G + 3, 0, none⟩) n.names.length n.names.length, .slice none 0 0, .slice none 0 0] 44 (0, 0)) := by rw [hV1]; simp [World.setCell, Array.getElem?_modify, hO1]
  have hs1b : V1.heap.size = w1.heap.size := by rw [hV1]; simp [World.setCell]
  have hbw1 : Below w.heap.size w V1 := by rw [hV1]; exact (hbW.trans (hb1.mono (by omega))).setCell (p := ⟨G + 1 + 1, 4, none⟩) (by show w.heap.size ≤ G + 1 + 1; omega) _
  have T1b : Hid (Tx V1.heap.size V1 (some ⟨G + 3, 0, none⟩) n.names) := by rw [hV1]; exact (hT1.out.setN (by omega)).mono (by simp [World.setCell])
  replace hV1 := mkHid hV1
  clear hP hR hO hP0 hR0 hO0 hP1 hR1 hO1 hT1
  go_wp2_with fail
  rw [← hV1.out]
  refine (HT2.out V1 hbw1).mono ?_
  rintro e w2 ⟨rfl, hT2, hb2⟩
  have hs2a := hb2.size
  obtain ⟨g2, hg2⟩ : ∃ g2, V1.heap.size = g2 := ⟨_, rfl⟩
  rw [hg2] at hT2 hb2 T1b hs1b hs2a ⊢
  have hg2l : G + 3 ≤ g2 := by omega
  clear x1 z1 y1 hV1 hb1 hs1 hs1b hg2
  have hs2 : g2 ≤ w2.heap.size := hs2a
  have hP1 := hP1b
  have hR1 := hR1b
  have hO1 := hO1b
  have hP2 : w2.heap[G]? = some (.cells #[.int .i64 n.kind, .int .i64 n.num, .int .i64 n.mat, .string n.text, .slice a1 n.names.length c1, .slice a2 n.keys.length c2, .slice a3 n.kids.length c3] 37 (0, 0)) := (hb2.block G (by omega)).trans hP1
  have hR2 : w2.heap[G + 1]? = some (.cells #[.int .i64 0, .int .i64 0, .int .i64 0, .string ⟨#[]⟩, .slice none 0 0, .slice none 0 0, .slice none 0 0] 44 (0, 0)) := (hb2.block (G + 1) (by omega)).trans hR1
  have hO2 : w2.heap[G + 1 + 1]? = some (.cells #[Value.int .i64 n.kind, .int .i64 n.num, .int .i64 n.mat, .string n.text, .slice (some ⟨G + 3, 0, none⟩) n.names.length n.names.length, .slice none 0 0, .slice none 0 0] 44 (0, 0)) := (hb2.block (G + 1 + 1) (by omega)).trans hO1
  have x2 : w2.cell? ⟨G + 1 + 1, 5, none⟩ = some (.slice none 0 0) := by simp [World.cell?, hO2]
  have z2 : w2.frozen? ⟨G + 1 + 1, 5, none⟩ = false := by simp [World.frozen?, hO2]
  have y2 : w2.cell? ⟨G, 6, none⟩ = some (.slice a3 n.kids.length c3) := by simp [World.cell?, hP2]
  obtain ⟨V2, hV2⟩ : ∃ V, V = w2.setCell ⟨G + 1 + 1, 5, none⟩ (.slice (some ⟨g2, 0, none⟩) n.keys.length n.keys.length) := ⟨_, rfl⟩
  have hP2b : V2.heap[G]? = some (.cells #[.int .i64 n.kind, .int .i64 n.num, .int .i64 n.mat, .string n.text, .slice a1 n.names.length c1, .slice a2 n.keys.length c2, .slice a3 n.kids.length c3] 37 (0, 0)) := by rw [hV2]; exact (hp_setN _ _ _ _ _ (by omega)).trans hP2
  have hR2b : V2.heap[G + 1]? = some (.cells #[.int .i64 0, .int .i64 0, .int .i64 0, .string ⟨#[]⟩, .slice none 0 0, .slice none 0 0, .slice none 0 0] 44 (0, 0)) := by rw [hV2]; exact (hp_setN _ _ _ _ _ (by omega)).trans hR2
  have hO2b : V2.heap[G + 1 + 1]? = some (.cells #[Value.int .i64 n.kind, .int .i64 n.num, .int .i64 n.mat, .string n.text, .slice (some ⟨G + 3, 0, none⟩) n.names.length n.names.length, .slice (some ⟨g2, 0, none⟩) n.keys.length n.keys.length, .slice none 0 0] 44 (0, 0)) := by rw [hV2]; simp [World.setCell, Array.getElem?_modify, hO2]
  have hs2b : V2.heap.size = w2.heap.size := by rw [hV2]; simp [World.setCell]
  have hbw2 : Below w.heap.size w V2 := by rw [hV2]; exact (hbw1.trans (hb2.mono (by omega))).setCell (p := ⟨G + 1 + 1, 5, none⟩) (by show w.heap.size ≤ G + 1 + 1; omega) _
  have T1c : Hid (Tx V2.heap.size V2 (some ⟨G + 3, 0, none⟩) n.names) := by rw [hV2]; exact ((T1b.out.below hb2).mono hs2).setN (by omega) |>.mono (by simp [World.setCell])
  have T2c : Hid (Tx V2.heap.size V2 (some ⟨g2, 0, none⟩) n.keys) := by rw [hV2]; exact (hT2.out.setN (by omega)).mono (by simp [World.setCell])
  replace hV2 := mkHid hV2
  clear hP1b hR1b hO1b hP1 hR1 hO1 hP2 hR2 hO2 hT2 T1b
  go_wp2_with fail
  rw [← hV2.out]
  refine (HT3.out V2 hbw2).mono ?_
  rintro e w3 ⟨rfl, hT3, hb3⟩
  have hs3a := hb3.size
  obtain ⟨g3, hg3⟩ : ∃ g3, V2.heap.size = g3 := ⟨_, rfl⟩
  rw [hg3] at hT3 hb3 T1c T2c hs2b hs3a ⊢
  have hg3l : G + 3 ≤ g3 := by omega
  have hg3g : g2 ≤ g3 := by omega
  clear x2 z2 y2 hV2 hb2 hs2 hs2a hs2b hg3
  have hs3 : g3 ≤ w3.heap.size := hs3a
  clear hs3a
  have hR3 : w3.heap[G + 1]? = some (.cells #[.int .i64 0, .int .i64 0, .int .i64 0, .string ⟨#[]⟩, .slice none 0 0, .slice none 0 0, .slice none 0 0] 44 (0, 0)) := (hb3.block (G + 1) (by omega)).trans hR2b
  have hO3 : w3.heap[G + 1 + 1]? = some (.cells #[Value.int .i64 n.kind, .int .i64 n.num, .int .i64 n.mat, .string n.text, .slice (some ⟨G + 3, 0, none⟩) n.names.length n.names.length, .slice (some ⟨g2, 0, none⟩) n.keys.length n.keys.length, .slice none 0 0] 44 (0, 0)) := (hb3.block (G + 1 + 1) (by omega)).trans hO2b
  have x3 : w3.cell? ⟨G + 1 + 1, 6, none⟩ = some (.slice none 0 0) := by simp [World.cell?, hO3]
  have z3 : w3.frozen? ⟨G + 1 + 1, 6, none⟩ = false := by simp [World.frozen?, hO3]
  have hR3b : (w3.setCell ⟨G + 1 + 1, 6, none⟩ (.slice (some ⟨g3, 0, none⟩) n.kids.length n.kids.length)).heap[G + 1]? = some (.cells #[.int .i64 0, .int .i64 0, .int .i64 0, .string ⟨#[]⟩, .slice none 0 0, .slice none 0 0, .slice none 0 0] 44 (0, 0)) := (hp_setN _ _ _ _ _ (by omega)).trans hR3
  have hO3b : (w3.setCell ⟨G + 1 + 1, 6, none⟩ (.slice (some ⟨g3, 0, none⟩) n.kids.length n.kids.length)).heap[G + 1 + 1]? = some (.cells #[Value.int .i64 n.kind, .int .i64 n.num, .int .i64 n.mat, .string n.text, .slice (some ⟨G + 3, 0, none⟩) n.names.length n.names.length, .slice (some ⟨g2, 0, none⟩) n.keys.length n.keys.length, .slice (some ⟨g3, 0, none⟩) n.kids.length n.kids.length] 44 (0, 0)) := by simp [World.setCell, Array.getElem?_modify, hO3]
  have hbw3 : Below w.heap.size w (w3.setCell ⟨G + 1 + 1, 6, none⟩ (.slice (some ⟨g3, 0, none⟩) n.kids.length n.kids.length)) := (hbw2.trans (hb3.mono (by omega))).setCell (p := ⟨G + 1 + 1, 6, none⟩) (by show w.heap.size ≤ G + 1 + 1; omega) _
  have hbw4 := mkHid (hbw3.grown (grown_setRow (w3.setCell ⟨G + 1 + 1, 6, none⟩ (.slice (some ⟨g3, 0, none⟩) n.kids.length n.kids.length)) (G + 1) #[Value.int .i64 n.kind, .int .i64 n.num, .int .i64 n.mat, .string n.text, .slice (some ⟨G + 3, 0, none⟩) n.names.length n.names.length, .slice (some ⟨g2, 0, none⟩) n.keys.length n.keys.length, .slice (some ⟨g3, 0, none⟩) n.kids.length n.kids.length]) hbw3.size (fun j hj => by cases hj; omega))
  have hTx : Hid (Tx ((w3.setCell ⟨G + 1 + 1, 6, none⟩ (.slice (some ⟨g3, 0, none⟩) n.kids.length n.kids.length)).setRow (G + 1) #[Value.int .i64 n.kind, .int .i64 n.num, .int .i64 n.mat, .string n.text, .slice (some ⟨G + 3, 0, none⟩) n.names.length n.names.length, .slice (some ⟨g2, 0, none⟩) n.keys.length n.keys.length, .slice (some ⟨g3, 0, none⟩) n.kids.length n.kids.length]).heap.size ((w3.setCell ⟨G + 1 + 1, 6, none⟩ (.slice (some ⟨g3, 0, none⟩) n.kids.length n.kids.length)).setRow (G + 1) #[Value.int .i64 n.kind, .int .i64 n.num, .int .i64 n.mat, .string n.text, .slice (some ⟨G + 3, 0, none⟩) n.names.length n.names.length, .slice (some ⟨g2, 0, none⟩) n.keys.length n.keys.length, .slice (some ⟨g3, 0, none⟩) n.kids.length n.kids.length]) (some ⟨G + 3, 0, none⟩) n.names ∧ Tx ((w3.setCell ⟨G + 1 + 1, 6, none⟩ (.slice (some ⟨g3, 0, none⟩) n.kids.length n.kids.length)).setRow (G + 1) #[Value.int .i64 n.kind, .int .i64 n.num, .int .i64 n.mat, .string n.text, .slice (some ⟨G + 3, 0, none⟩) n.names.length n.names.length, .slice (some ⟨g2, 0, none⟩) n.keys.length n.keys.length, .slice (some ⟨g3, 0, none⟩) n.kids.length n.kids.length]).heap.size ((w3.setCell ⟨G + 1 + 1, 6, none⟩ (.slice (some ⟨g3, 0, none⟩) n.kids.length n.kids.length)).setRow (G + 1) #[Value.int .i64 n.kind, .int .i64 n.num, .int .i64 n.mat, .string n.text, .slice (some ⟨G + 3, 0, none⟩) n.names.length n.names.length, .slice (some ⟨g2, 0, none⟩) n.keys.length n.keys.length, .slice (some ⟨g3, 0, none⟩) n.kids.length n.kids.length]) (some ⟨g2, 0, none⟩) n.keys ∧ Ints ((w3.setCell ⟨G + 1 + 1, 6, none⟩ (.slice (some ⟨g3, 0, none⟩) n.kids.length n.kids.length)).setRow (G + 1) #[Value.int .i64 n.kind, .int .i64 n.num, .int .i64 n.mat, .string n.text, .slice (some ⟨G + 3, 0, none⟩) n.names.length n.names.length, .slice (some ⟨g2, 0, none⟩) n.keys.length n.keys.length, .slice (some ⟨g3, 0, none⟩) n.kids.length n.kids.length]).heap.size ((w3.setCell ⟨G + 1 + 1, 6, none⟩ (.slice (some ⟨g3, 0, none⟩) n.kids.length n.kids.length)).setRow (G + 1) #[Value.int .i64 n.kind, .int .i64 n.num, .int .i64 n.mat, .string n.text, .slice (some ⟨G + 3, 0, none⟩) n.names.length n.names.length, .slice (some ⟨g2, 0, none⟩) n.keys.length n.keys.length, .slice (some ⟨g3, 0, none⟩) n.kids.length n.kids.length]) (some ⟨g3, 0, none⟩) n.kids) := by
    have hsz : w3.heap.size ≤ ((w3.setCell ⟨G + 1 + 1, 6, none⟩ (.slice (some ⟨g3, 0, none⟩) n.kids.length n.kids.length)).setRow (G + 1) #[Value.int .i64 n.kind, .int .i64 n.num, .int .i64 n.mat, .string n.text, .slice (some ⟨G + 3, 0, none⟩) n.names.length n.names.length, .slice (some ⟨g2, 0, none⟩) n.keys.length n.keys.length, .slice (some ⟨g3, 0, none⟩) n.kids.length n.kids.length]).heap.size := by simp [World.setCell]
    refine ⟨(((((T1c.out.below hb3).mono hs3).setN (by omega)).rowN (by omega)).mono hsz), (((((T2c.out.below hb3).mono hs3).setN (by omega)).rowN (by omega)).mono hsz), (((hT3.out.setN (by omega)).rowN (by omega)).mono hsz)⟩
  clear hP2b hR2b hO2b hR3 hO3 T1c T2c hT3 hb3 hbw3 hbw1 hbw2
  go_wp2_with (first | (refine wpL_load_row rfl 44 _ rfl (G + 1 + 1) _ 44 (0, 0) _ rfl hO3b Try.underlying44 rfl (by kernel_rfl) ?_) | (refine wpL_store_row rfl 44 _ _ rfl (G + 1) _ rfl rfl 44 _ hR3b (by kernel_rfl) rfl (by simp [Value.oneCell']) ?_) | go_in)
  refine bodyPost_ret (v := .agg #[Value.int .i64 n.kind, .int .i64 n.num, .int .i64 n.mat, .string n.text, .slice (some ⟨G + 3, 0, none⟩) n.names.length n.names.length, .slice (some ⟨g2, 0, none⟩) n.keys.length n.keys.length, .slice (some ⟨g3, 0, none⟩) n.kids.length n.kids.length]) (results_cell_row Try.results17 _ _ (G + 1) 44 _ (0, 0) _ rfl (setRow_heap _ _ _ _ _ _ hR3b) Try.underlying44 rfl (by kernel_rfl)) rfl ⟨G + 3, g2, g3, rfl, ⟨⟨by omega, by omega, by omega⟩, hTx.out⟩, hbw4.out⟩
end Go.Proofs.Ytonnmbkfjiddnaa
namespace Go.Proofs.Ytonnmbkfjiddnaa
open Go.RowKit Go.Lib Go.Maps
theorem grN_refl (w : World) (r : Option Nat) : w.grownBy w r := ⟨rfl, rfl, rfl, Nat.le_refl _, fun _ _ _ => rfl⟩
theorem grN_trans {a b c : World} {r : Option Nat} (h : a.grownBy b r) (k : b.grownBy c r) : a.grownBy c r :=
  ⟨k.os.trans h.os, k.tape.trans h.tape, k.output.trans h.output, Nat.le_trans h.size k.size, fun i hi hr => (k.block i (Nat.lt_of_lt_of_le hi h.size) hr).trans (h.block i hi hr)⟩
theorem grN_below {w w' : World} {r : Option Nat} (h : Below w.heap.size w w') : w.grownBy w' r := ⟨h.os, h.tape, h.output, h.size, fun k hk _ => h.block k hk⟩
theorem grN_set (w : World) (g j : Nat) (v : Value) : w.grownBy (w.setCell ⟨g, j, none⟩ v) (some g) :=
  ⟨rfl, rfl, rfl, by simp [World.setCell], fun k _ hr => hp_setN _ _ _ _ _ (fun e => hr (by rw [e]))⟩
theorem cell_gr {w w' : World} {G g k : Nat} {v : Value} (h : w.grownBy w' (some G)) (hne : g ≠ G) (hc : w.cell? ⟨g, k, none⟩ = some v) : w'.cell? ⟨g, k, none⟩ = some v := by
  have hlt : g < w.heap.size := World.block_lt_of_cell? _ _ hc
  rw [← hc]
  unfold World.cell?
  rw [show (⟨g, k, none⟩ : Addr).block = g from rfl, h.block g hlt (by intro e; exact hne (Option.some.inj e))]
/-- The lists of a node that was made, in blocks beside G. -/
structure Md (G B : Nat) (w : World) (n : Nd) (g1 g2 g3 : Nat) : Prop where
  n1 : G < g1
  n2 : G < g2
  n3 : G < g3
  t1 : Tx B w (some ⟨g1, 0, none⟩) n.names
  t2 : Tx B w (some ⟨g2, 0, none⟩) n.keys
  t3 : Ints B w (some ⟨g3, 0, none⟩) n.kids
theorem Md.gr {G B : Nat} {w w' : World} {n : Nd} {g1 g2 g3 : Nat} (h : Md G B w n g1 g2 g3) (hg : w.grownBy w' (some G)) : Md G B w' n g1 g2 g3 := by
  have h1 := h.n1
  have h2 := h.n2
  have h3 := h.n3
  refine ⟨h1, h2, h3, ?_, ?_, ?_⟩
  · intro k hk
    obtain ⟨a, e, ha, hc⟩ := h.t1 k hk
    cases e
    rw [add_off] at hc
    exact ⟨_, rfl, ha, by rw [add_off]; exact cell_gr hg (by omega) hc⟩
  · intro k hk
    obtain ⟨a, e, ha, hc⟩ := h.t2 k hk
    cases e
    rw [add_off] at hc
    exact ⟨_, rfl, ha, by rw [add_off]; exact cell_gr hg (by omega) hc⟩
  · intro k hk
    obtain ⟨a, e, ha, hc⟩ := h.t3 k hk
    cases e
    rw [add_off] at hc
    exact ⟨_, rfl, ha, by rw [add_off]; exact cell_gr hg (by omega) hc⟩
theorem Md.mono {G B B' : Nat} {w : World} {n : Nd} {g1 g2 g3 : Nat} (h : Md G B w n g1 g2 g3) (hB : B ≤ B') : Md G B' w n g1 g2 g3 :=
  ⟨h.n1, h.n2, h.n3, h.t1.mono hB, h.t2.mono hB, h.t3.mono hB⟩
def vN (n : Nd) (g1 : Nat) : Value := .slice (some ⟨g1, 0, none⟩) n.names.length n.names.length
def vK (n : Nd) (g2 : Nat) : Value := .slice (some ⟨g2, 0, none⟩) n.keys.length n.keys.length
def vD (n : Nd) (g3 : Nat) : Value := .slice (some ⟨g3, 0, none⟩) n.kids.length n.kids.length
/-- A node's cells in a row. -/
structure L7 (f : Nat → Value) (j : Nat) (n : Nd) (vn vk vd : Value) : Prop where
  c0 : f (j * 7) = .int .i64 n.kind
  c1 : f (j * 7 + 1) = .int .i64 n.num
  c2 : f (j * 7 + 2) = .int .i64 n.mat
  c3 : f (j * 7 + 3) = .string n.text
  c4 : f (j * 7 + 4) = vn
  c5 : f (j * 7 + 5) = vk
  c6 : f (j * 7 + 6) = vd
def set7 (w : World) (g k : Nat) (n : Nd) (vn vk vd : Value) : World :=
  ((((((w.setCell ⟨g, k * 7, none⟩ (.int .i64 n.kind)).setCell ⟨g, k * 7 + 1, none⟩ (.int .i64 n.num)).setCell ⟨g, k * 7 + 2, none⟩ (.int .i64 n.mat)).setCell ⟨g, k * 7 + 3, none⟩ (.string n.text)).setCell ⟨g, k * 7 + 4, none⟩ vn).setCell ⟨g, k * 7 + 5, none⟩ vk).setCell ⟨g, k * 7 + 6, none⟩ vd
theorem row7 {w : World} {g t N : Nat} {f : Nat → Value} (h : w.rowIs g t N f) (k : Nat) (n : Nd) (vn vk vd : Value) :
    ∃ f', (set7 w g k n vn vk vd).rowIs g t N f' ∧ L7 f' k n vn vk vd ∧ ∀ j m un uk ud, j ≠ k → L7 f j m un uk ud → L7 f' j m un uk ud := by
  refine ⟨_, ((((((h.set _ _).set _ _).set _ _).set _ _).set _ _).set _ _).set _ _, ?_, ?_⟩
  · constructor <;> simp
  · intro j m un uk ud hj hl
    obtain ⟨c0, c1, c2, c3, c4, c5, c6⟩ := hl
    constructor <;> rw [if_neg (by omega), if_neg (by omega), if_neg (by omega), if_neg (by omega), if_neg (by omega), if_neg (by omega), if_neg (by omega)] <;> assumption
theorem gr7 (w : World) (g k : Nat) (n : Nd) (vn vk vd : Value) : w.grownBy (set7 w g k n vn vk vd) (some g) :=
  grN_trans (grN_trans (grN_trans (grN_trans (grN_trans (grN_trans (grN_set _ _ _ _) (grN_set _ _ _ _)) (grN_set _ _ _ _)) (grN_set _ _ _ _)) (grN_set _ _ _ _)) (grN_set _ _ _ _)) (grN_set _ _ _ _)
theorem Try.infoN : (Try.prog.info? 44).map (fun i => (i.zero, i.size, i.bytes)) = some (some (.agg #[.int .i64 0, .int .i64 0, .int .i64 0, .string ⟨#[]⟩, .slice none 0 0, .slice none 0 0, .slice none 0 0]), 7, 112) := by kernel_rfl
set_option maxHeartbeats 4000000 in
set_option maxRecDepth 20000 in
theorem lawToNodes (o : Option Addr) (F : List Nd) (cap : Nat) (w : World) (hF : Nds w.heap.size w o F) (hlen : F.length ≤ 1048576) (hfit : ∀ f ∈ F, f.fits 1048576) :
    Calls Try.prog 6 #[.slice o F.length cap] w fun e w' => e = .returned (.slice (some ⟨w.heap.size, 0, none⟩) F.length F.length) ∧ Hid (Nds w'.heap.size w' (some ⟨w.heap.size, 0, none⟩) F) ∧ Below w.heap.size w w' := by
  obtain ⟨i0, hi, hy0, hy1, hy2⟩ := info_parts Try.infoN
  have hmk := run_make (P := Try.prog) w 26 44 i0 _ Try.underlying26 hi hy0 .i64 .i64 F.length F.length (by omega) (Int.le_refl _) (by rw [hy2]; omega) (by omega)
  simp only [Int.toNat_natCast, hy1] at hmk
  have HF : Hid (Nds w.heap.size w o F) := hF
  have Hfit : Hid (∀ f ∈ F, f.fits 1048576) := hfit
  clear hF hfit
  obtain ⟨c0, hc0⟩ : ∃ c0, c0 = madeCells (Value.cells (.agg #[.int .i64 0, .int .i64 0, .int .i64 0, .string ⟨#[]⟩, .slice none 0 0, .slice none 0 0, .slice none 0 0])) (F.length * 7) := ⟨_, rfl⟩
  have hcs : c0.size = F.length * 7 := by rw [hc0]; exact size_madeCells _ _
  rw [← hc0] at hmk
  have Hrow0 : Hid (∃ f, (w.alloc (.cells c0 44)).rowIs w.heap.size 44 (F.length * 7) f) := by
    refine ⟨fun j => c0[j]!, ?_⟩
    have := World.rowIs_alloc w c0 44 (fun j => c0[j]!) (fun i hi => by simp [hi])
    rw [hcs] at this
    exact this
  clear hc0 hcs
  go_enter Try.func6, Try.ntmps6
  go_wp2
  clear hmk
  generalize hG : w.heap.size = G at *
  go_loopw [4] (fun i wr => ∃ (k : Nat) (f : Nat → Value), k ≤ F.length ∧ i = .int .i64 k ∧ wr.rowIs G 44 (F.length * 7) f ∧
      Hid (∀ j (h : j < F.length), j < k → ∃ g1 g2 g3, L7 f j F[j] (vN F[j] g1) (vK F[j] g2) (vD F[j] g3) ∧ Md G wr.heap.size wr F[j] g1 g2 g3) ∧ Below G w wr) (fun i _ => F.length - (Lib.intOf i).toNat)
  case atStart =>
    obtain ⟨f, hx⟩ := Hrow0.out
    exact ⟨0, f, Nat.zero_le _, rfl, hx, fun j h h0 => absurd h0 (Nat.not_lt_zero _), (Below.refl _ _).alloc (by omega) _⟩
  case round =>
    clear Hrow0
    obtain ⟨k, f, hk, rfl, hrow, hall, hb⟩ := hrel
    by_cases hlt : k < F.length
    · obtain ⟨a, vn, vk, vd, rfl, ha, hA, hI⟩ := (HF.out.below hb) k hlt
      have hGl := hrow.lt
      have hT := mkHid (lawToNode F[k] vn vk vd wr (hI.mono (by omega)) (Hfit.out _ (List.getElem_mem hlt)))
      have c0 := hA.c0
      have c1 := hA.c1
      have c2 := hA.c2
      have c3 := hA.c3
      have c4 := hA.c4
      have c5 := hA.c5
      have c6 := hA.c6
      clear hA hI
      generalize hf : F[k] = n at *
      have Hf := mkHid hf
      clear hf
      go_wp2_with fail
      refine hT.out.mono ?_
      rintro e w1 ⟨g1, g2, g3, rfl, hTx, hb1⟩
      obtain ⟨⟨l1, l2, l3⟩, t1, t2, t3⟩ := hTx.out
      have hMd : Md G w1.heap.size w1 n g1 g2 g3 := ⟨by omega, by omega, by omega, t1, t2, t3⟩
      have hrow1 : w1.rowIs G 44 (F.length * 7) f := hrow.of_block (hb1.block G hGl)
      have hgr := gr7 w1 G k n (vN n g1) (vK n g2) (vD n g3)
      obtain ⟨f', hrow2, hL, hLo⟩ := row7 hrow1 k n (vN n g1) (vK n g2) (vD n g3)
      have hMd2 := (hMd.gr hgr).mono hgr.size
      have hgr2 := grN_trans (grN_below (r := some G) hb1) hgr
      have hb2 : Below G w (set7 w1 G k n (vN n g1) (vK n g2) (vD n g3)) := (hb.trans (hb1.mono (by omega))).grown hgr (by have := hb1.size; omega) (fun j hj => by cases hj; exact Nat.le_refl _)
      have Hall : Hid (∀ j (h : j < F.length), j < k + 1 → ∃ h1 h2 h3, L7 f' j F[j] (vN F[j] h1) (vK F[j] h2) (vD F[j] h3) ∧ Md G (set7 w1 G k n (vN n g1) (vK n g2) (vD n g3)).heap.size (set7 w1 G k n (vN n g1) (vK n g2) (vD n g3)) F[j] h1 h2 h3) := by
        intro j h hj
        by_cases hjk : j = k
        · subst hjk
          rw [Hf.out]
          exact ⟨g1, g2, g3, hL, hMd2⟩
        · obtain ⟨h1, h2, h3, hl, hm⟩ := hall.out j h (by omega)
          exact ⟨h1, h2, h3, hLo j _ _ _ _ hjk hl, (hm.gr hgr2).mono hgr2.size⟩
      have hd := fun (j : Nat) (hj : j < 7) => hrow1.cell (i := k * 7 + j) (by omega)
      have d0 := hd 0 (by omega)
      have d1 := hd 1 (by omega)
      have d2 := hd 2 (by omega)
      have d3 := hd 3 (by omega)
      have d4 := hd 4 (by omega)
      have d5 := hd 5 (by omega)
      have d6 := hd 6 (by omega)
      have z0 := hrow1.frozen (k * 7)
      have z1 := hrow1.frozen (k * 7 + 1)
      have z2 := hrow1.frozen (k * 7 + 2)
      have z3 := hrow1.frozen (k * 7 + 3)
      have z4 := hrow1.frozen (k * 7 + 4)
      have z5 := hrow1.frozen (k * 7 + 5)
      have z6 := hrow1.frozen (k * 7 + 6)
      rw [Nat.add_zero] at d0
      have hadd := add_off G (k * 7)
      replace hrow2 := mkHid hrow2
      replace hb2 := mkHid hb2
      clear hd hrow hrow1 hL hLo hMd2 hMd hgr hgr2 hall hb hb1 c0 c1 c2 c3 c4 c5 c6 t1 t2 t3 hTx hT
      unfold ndV
      unfold vN vK vD set7 at hrow2 hb2 Hall
      go_wp2
      go_roundw
      case rel => exact ⟨k + 1, f', by omega, by go_num, hrow2.out, Hall.out, hb2.out⟩
      case measure => simp [Lib.intOf]; omega
    · go_wp2
      go_ret
      refine ⟨by rw [hG]; rfl, ?_, by rw [hG]; exact hb⟩
      intro i hi
      obtain ⟨g1, g2, g3, hl, hm⟩ := hall.out i hi (by omega)
      refine ⟨⟨w.heap.size, 0, none⟩, vN F[i] g1, vK F[i] g2, vD F[i] g3, rfl, by rw [hG]; exact hrow.lt, ?_, ⟨⟨_, _, rfl, hm.t1⟩, ⟨_, _, rfl, hm.t2⟩, ⟨_, _, rfl, hm.t3⟩⟩⟩
      rw [add_off, hG]
      have hd := fun (j : Nat) (hj : j < 7) => hrow.cell (i := i * 7 + j) (by omega)
      refine ⟨?_, ?_, ?_, ?_, ?_, ?_, ?_⟩
      · have := hd 0 (by omega); rw [Nat.add_zero, hl.c0] at this; exact this
      · have := hd 1 (by omega); rw [hl.c1] at this; exact this
      · have := hd 2 (by omega); rw [hl.c2] at this; exact this
      · have := hd 3 (by omega); rw [hl.c3] at this; exact this
      · have := hd 4 (by omega); rw [hl.c4] at this; exact this
      · have := hd 5 (by omega); rw [hl.c5] at this; exact this
      · have := hd 6 (by omega); rw [hl.c6] at this; exact this
end Go.Proofs.Ytonnmbkfjiddnaa
namespace Go.Proofs.Ytonnmbkfjiddnaa
open Go.RowKit Go.Lib Go.Maps
set_option maxHeartbeats 400000 in
theorem lawEqTextsO (a b : Option Addr) (F : List ByteArray) (cap cap' : Nat) (w : World) (hF : Tx w.heap.size w a F) (hG : Tx w.heap.size w b F) (hlen : F.length ≤ 1048576) :
    Calls Try.prog 46 #[.slice a F.length cap, .slice b F.length cap'] w fun e w' => e = .returned (.bool true) ∧ Below w.heap.size w w' := by
  have HF : Hid (Tx w.heap.size w a F) := hF
  have HG : Hid (Tx w.heap.size w b F) := hG
  clear hF hG
  go_enter Try.func46, Try.ntmps46
  go_wp2
  go_loopw [5] (fun i wr => ∃ k : Nat, k ≤ F.length ∧ i = .int .i64 k ∧ Below w.heap.size w wr) (fun i _ => F.length - (Lib.intOf i).toNat)
  case atStart => exact ⟨0, Nat.zero_le _, rfl, Below.refl _ _⟩
  case round =>
    obtain ⟨k, hk, rfl, hb0⟩ := hrel
    by_cases hlt : k < F.length
    · obtain ⟨a', ea, ha, hc0⟩ := (HF.out.below hb0) k hlt
      obtain ⟨b', eb, hb, hd0⟩ := (HG.out.below hb0) k hlt
      subst ea eb
      generalize F[k] = f at hc0 hd0
      go_wp2
      go_region
      all_goals
        go_wp2
        go_roundw
        case rel => exact ⟨k + 1, by omega, by go_num, hb0.drew⟩
        case measure => simp [Lib.intOf]; omega
    · go_wp2
      go_ret
      exact ⟨rfl, hb0⟩
set_option maxHeartbeats 400000 in
theorem lawEqIntsO (a b : Option Addr) (F : List Int) (cap cap' : Nat) (w : World) (hF : Ints w.heap.size w a F) (hG : Ints w.heap.size w b F) (hlen : F.length ≤ 1048576) :
    Calls Try.prog 47 #[.slice a F.length cap, .slice b F.length cap'] w fun e w' => e = .returned (.bool true) ∧ Below w.heap.size w w' := by
  have HF : Hid (Ints w.heap.size w a F) := hF
  have HG : Hid (Ints w.heap.size w b F) := hG
  clear hF hG
  go_enter Try.func47, Try.ntmps47
  go_wp2
  go_loopw [5] (fun i wr => ∃ k : Nat, k ≤ F.length ∧ i = .int .i64 k ∧ Below w.heap.size w wr) (fun i _ => F.length - (Lib.intOf i).toNat)
  case atStart => exact ⟨0, Nat.zero_le _, rfl, Below.refl _ _⟩
  case round =>
    obtain ⟨k, hk, rfl, hb0⟩ := hrel
    by_cases hlt : k < F.length
    · obtain ⟨a', ea, ha, hc0⟩ := (HF.out.below hb0) k hlt
      obtain ⟨b', eb, hb, hd0⟩ := (HG.out.below hb0) k hlt
      subst ea eb
      generalize F[k] = f at hc0 hd0
      go_wp2
      go_region
      all_goals
        go_wp2
        go_roundw
        case rel => exact ⟨k + 1, by omega, by go_num, hb0.drew⟩
        case measure => simp [Lib.intOf]; omega
    · go_wp2
      go_ret
      exact ⟨rfl, hb0⟩
set_option maxHeartbeats 1000000 in
theorem lawEqNode (n : Nd) (vn vk vd un uk ud : Value) (w : World) (hI : NdIn w.heap.size w n vn vk vd) (hJ : NdIn w.heap.size w n un uk ud) (hf : n.fits 1048576) :
    Calls Try.prog 22 #[ndV n vn vk vd, ndV n un uk ud] w fun e w' => e = .returned (.bool true) ∧ Below w.heap.size w w' := by
  obtain ⟨⟨a1, c1, rfl, t1⟩, ⟨a2, c2, rfl, t2⟩, ⟨a3, c3, rfl, t3⟩⟩ := hI
  obtain ⟨⟨b1, d1, rfl, s1⟩, ⟨b2, d2, rfl, s2⟩, ⟨b3, d3, rfl, s3⟩⟩ := hJ
  obtain ⟨f1, f2, f3, f4, f5, f6⟩ := hf
  have HT1 := mkHid fun (w' : World) (hb : Below w.heap.size w w') => lawEqTextsO a1 b1 n.names c1 d1 w' ((t1.below hb).mono hb.size) ((s1.below hb).mono hb.size) f2
  have HT2 := mkHid fun (w' : World) (hb : Below w.heap.size w w') => lawEqTextsO a2 b2 n.keys c2 d2 w' ((t2.below hb).mono hb.size) ((s2.below hb).mono hb.size) f4
  have HT3 := mkHid fun (w' : World) (hb : Below w.heap.size w w') => lawEqIntsO a3 b3 n.kids c3 d3 w' ((t3.below hb).mono hb.size) ((s3.below hb).mono hb.size) f6
  clear t1 t2 t3 s1 s2 s3 f2 f3 f4 f5 f6
  obtain ⟨W, hW⟩ : ∃ W, W = (w.alloc (.cells #[.int .i64 n.kind, .int .i64 n.num, .int .i64 n.mat, .string n.text, .slice a1 n.names.length c1, .slice a2 n.keys.length c2, .slice a3 n.kids.length c3] 44)).alloc (.cells #[.int .i64 n.kind, .int .i64 n.num, .int .i64 n.mat, .string n.text, .slice b1 n.names.length d1, .slice b2 n.keys.length d2, .slice b3 n.kids.length d3] 44) := ⟨_, rfl⟩
  have hbW : Below w.heap.size w W := by rw [hW]; exact ((Below.refl _ _).alloc (Nat.le_refl _) _).alloc (by simp) _
  have hWs : w.heap.size + 1 < W.heap.size := by rw [hW]; simp
  have hA : W.heap[w.heap.size]? = some (.cells #[.int .i64 n.kind, .int .i64 n.num, .int .i64 n.mat, .string n.text, .slice a1 n.names.length c1, .slice a2 n.keys.length c2, .slice a3 n.kids.length c3] 44 (0, 0)) := by rw [hW]; exact (Below.heap_alloc _ _ _ (by simp)).trans (hp_allocN _ _)
  have hB : W.heap[w.heap.size + 1]? = some (.cells #[.int .i64 n.kind, .int .i64 n.num, .int .i64 n.mat, .string n.text, .slice b1 n.names.length d1, .slice b2 n.keys.length d2, .slice b3 n.kids.length d3] 44 (0, 0)) := by
    rw [hW, show w.heap.size + 1 = (w.alloc (.cells #[.int .i64 n.kind, .int .i64 n.num, .int .i64 n.mat, .string n.text, .slice a1 n.names.length c1, .slice a2 n.keys.length c2, .slice a3 n.kids.length c3] 44)).heap.size by simp]
    exact hp_allocN _ _
  replace hW := mkHid hW
  unfold ndV
  go_enter Try.func22, Try.ntmps22
  go_wp2_with fail
  rw [← hW.out]
  refine (HT1.out W hbW).mono ?_
  rintro e w1 ⟨rfl, hb1⟩
  have hs1 := hb1.size
  have hA1 := (hb1.block w.heap.size (by omega)).trans hA
  have hB1 := (hb1.block (w.heap.size + 1) hWs).trans hB
  have hbw1 := hbW.trans (hb1.mono (by omega))
  have p5 : w1.cell? ⟨w.heap.size, 5, none⟩ = some (.slice a2 n.keys.length c2) := by simp [World.cell?, hA1]
  have q5 : w1.cell? ⟨w.heap.size + 1, 5, none⟩ = some (.slice b2 n.keys.length d2) := by simp [World.cell?, hB1]
  clear hA hB hW hb1
  go_wp2_with fail
  refine (HT2.out w1 hbw1).mono ?_
  rintro e w2 ⟨rfl, hb2⟩
  have hA2 := (hb2.block w.heap.size (by omega)).trans hA1
  have hB2 := (hb2.block (w.heap.size + 1) (by omega)).trans hB1
  have hbw2 := hbw1.trans (hb2.mono (by omega))
  have p6 : w2.cell? ⟨w.heap.size, 6, none⟩ = some (.slice a3 n.kids.length c3) := by simp [World.cell?, hA2]
  have q6 : w2.cell? ⟨w.heap.size + 1, 6, none⟩ = some (.slice b3 n.kids.length d3) := by simp [World.cell?, hB2]
  clear hA1 hB1 hA2 hB2 hb2 p5 q5
  go_wp2_with fail
  refine (HT3.out w2 hbw2).mono ?_
  rintro e w3 ⟨rfl, hb3⟩
  have hbw3 := hbw2.trans (hb3.mono hbw2.size)
  clear p6 q6 hb3
  go_wp2
  go_ret
  exact ⟨rfl, hbw3⟩
set_option maxHeartbeats 1000000 in
set_option maxRecDepth 10000 in
theorem lawEqNodes (a b : Option Addr) (F : List Nd) (cap cap' : Nat) (w : World) (hF : Nds w.heap.size w a F) (hG : Nds w.heap.size w b F) (hlen : F.length ≤ 1048576) (hfit : ∀ f ∈ F, f.fits 1048576) :
    Calls Try.prog 9 #[.slice a F.length cap, .slice b F.length cap'] w fun e w' => e = .returned (.bool true) ∧ Below w.heap.size w w' := by
  have HF := mkHid hF
  have HG := mkHid hG
  have Hfit := mkHid hfit
  clear hF hG hfit
  go_enter Try.func9, Try.ntmps9
  go_wp2
  go_loopw [5] (fun i wr => ∃ k : Nat, k ≤ F.length ∧ i = .int .i64 k ∧ Below w.heap.size w wr) (fun i _ => F.length - (Lib.intOf i).toNat)
  case atStart => exact ⟨0, Nat.zero_le _, rfl, Below.refl _ _⟩
  case round =>
    obtain ⟨k, hk, rfl, hb0⟩ := hrel
    by_cases hlt : k < F.length
    · obtain ⟨a', vn, vk, vd, rfl, ha, hA, hI⟩ := (HF.out.below hb0) k hlt
      obtain ⟨b', un, uk, ud, rfl, hb, hB, hJ⟩ := (HG.out.below hb0) k hlt
      have hE := mkHid fun (w' : World) (hb' : Below wr.heap.size wr w') => lawEqNode F[k] vn vk vd un uk ud w' (((hI.mono hb0.size).below hb').mono hb'.size) (((hJ.mono hb0.size).below hb').mono hb'.size) (Hfit.out _ (List.getElem_mem hlt))
      have c0 := hA.c0
      have c1 := hA.c1
      have c2 := hA.c2
      have c3 := hA.c3
      have c4 := hA.c4
      have c5 := hA.c5
      have c6 := hA.c6
      have d0 := hB.c0
      have d1 := hB.c1
      have d2 := hB.c2
      have d3 := hB.c3
      have d4 := hB.c4
      have d5 := hB.c5
      have d6 := hB.c6
      clear hA hB hI hJ
      generalize F[k] = n at *
      have cE : Hid (∀ d os, Calls Try.prog 22 #[ndV n vn vk vd, ndV n un uk ud] (Go.Sort.grow (redrawn wr d) os) fun e w'' => e = .returned (.bool true) ∧ ∃ p : Regrown, w'' = Go.Sort.grow (redrawn wr p.d) p.os) := fun d os => Calls.regrown_of (hE.out _ (below_regrown wr d os))
      unfold ndV at cE
      go_wp2
      have k0 := cell_regrown c0
      have l0 := cell_regrown d0
      have k1 := cell_regrown c1
      have l1 := cell_regrown d1
      have k2 := cell_regrown c2
      have l2 := cell_regrown d2
      have k3 := cell_regrown c3
      have l3 := cell_regrown d3
      have k4 := cell_regrown c4
      have l4 := cell_regrown d4
      have k5 := cell_regrown c5
      have l5 := cell_regrown d5
      have k6 := cell_regrown c6
      have l6 := cell_regrown d6
      clear hE c0 c1 c2 c3 c4 c5 c6 d0 d1 d2 d3 d4 d5 d6
      refine wp_region_quiet_below (by kernel_rfl) (by kernel_rfl) ?_
      iterate 8 (quiet_step (fail))
      quiet_step (exact cE.out _ _)
      repeat (quiet_step (fail))
      refine wpQuiet_nil ?_
      intro _ hw'
      obtain ⟨⟨dq, osq⟩, hw''⟩ := hw'
      subst hw''
      have hbq := mkHid (hb0.trans ((below_regrown wr dq osq).mono hb0.size))
      generalize Go.Sort.grow (redrawn wr dq) osq = wq at *
      clear k0 k1 k2 k3 k4 k5 k6 l0 l1 l2 l3 l4 l5 l6 cE hb0
      go_wp2
      go_roundw
      case rel => exact ⟨k + 1, by omega, by go_num, hbq.out⟩
      case measure => simp [Lib.intOf]; omega
    · go_wp2
      go_ret
      exact ⟨rfl, hb0⟩
end Go.Proofs.Ytonnmbkfjiddnaa
namespace Go.Proofs.Ytonnmbkfjiddnaa
open Go.RowKit Go.Lib Go.Maps
structure Cd where
  op : Int
  to : Int
  nd : Nd
def cdV (c : Cd) (vn vk vd : Value) : Value := .agg #[.int .i64 c.op, .int .i64 c.to, .int .i64 c.nd.kind, .int .i64 c.nd.num, .int .i64 c.nd.mat, .string c.nd.text, vn, vk, vd]
/-- The nine cells of an instruction. -/
structure CdAt (w : World) (A : Addr) (c : Cd) (vn vk vd : Value) : Prop where
  c0 : w.cell? A = some (.int .i64 c.op)
  c1 : w.cell? ⟨A.block, A.off + 1, none⟩ = some (.int .i64 c.to)
  c2 : w.cell? ⟨A.block, A.off + 2, none⟩ = some (.int .i64 c.nd.kind)
  c3 : w.cell? ⟨A.block, A.off + 3, none⟩ = some (.int .i64 c.nd.num)
  c4 : w.cell? ⟨A.block, A.off + 4, none⟩ = some (.int .i64 c.nd.mat)
  c5 : w.cell? ⟨A.block, A.off + 5, none⟩ = some (.string c.nd.text)
  c6 : w.cell? ⟨A.block, A.off + 6, none⟩ = some vn
  c7 : w.cell? ⟨A.block, A.off + 7, none⟩ = some vk
  c8 : w.cell? ⟨A.block, A.off + 8, none⟩ = some vd
theorem CdAt.below {B : Nat} {w w' : World} {A : Addr} {n : Cd} {vn vk vd : Value} (h : CdAt w A n vn vk vd) (hb : Below B w w') (hA : A.block < B) : CdAt w' A n vn vk vd :=
  ⟨(hb.cell hA).trans h.c0, (hb.cell (p := ⟨A.block, A.off + 1, none⟩) hA).trans h.c1, (hb.cell (p := ⟨A.block, A.off + 2, none⟩) hA).trans h.c2, (hb.cell (p := ⟨A.block, A.off + 3, none⟩) hA).trans h.c3, (hb.cell (p := ⟨A.block, A.off + 4, none⟩) hA).trans h.c4, (hb.cell (p := ⟨A.block, A.off + 5, none⟩) hA).trans h.c5, (hb.cell (p := ⟨A.block, A.off + 6, none⟩) hA).trans h.c6, (hb.cell (p := ⟨A.block, A.off + 7, none⟩) hA).trans h.c7, (hb.cell (p := ⟨A.block, A.off + 8, none⟩) hA).trans h.c8⟩
def Cds (B : Nat) (w : World) (o : Option Addr) (F : List Cd) : Prop :=
  ∀ i (h : i < F.length), ∃ a vn vk vd, o = some a ∧ a.block < B ∧ CdAt w (a.add (i * 9)) F[i] vn vk vd ∧ NdIn B w F[i].nd vn vk vd
theorem Cds.below {B : Nat} {w w' : World} {o : Option Addr} {F : List Cd} (h : Cds B w o F) (hb : Below B w w') : Cds B w' o F := by
  intro i hi
  obtain ⟨a, vn, vk, vd, ho, ha, h1, h2⟩ := h i hi
  exact ⟨a, vn, vk, vd, ho, ha, h1.below hb (by rw [add_blockN]; exact ha), h2.below hb⟩
theorem Cds.mono {B B' : Nat} {w : World} {o : Option Addr} {F : List Cd} (h : Cds B w o F) (hB : B ≤ B') : Cds B' w o F := by
  intro i hi
  obtain ⟨a, vn, vk, vd, ho, ha, h1, h2⟩ := h i hi
  exact ⟨a, vn, vk, vd, ho, by omega, h1, h2.mono hB⟩
end Go.Proofs.Ytonnmbkfjiddnaa
namespace Go.Proofs.Ytonnmbkfjiddnaa
open Go.RowKit Go.Lib Go.Maps
/-- An instruction's cells in a row. -/
structure L9 (f : Nat → Value) (j : Nat) (c : Cd) (vn vk vd : Value) : Prop where
  c0 : f (j * 9) = .int .i64 c.op
  c1 : f (j * 9 + 1) = .int .i64 c.to
  c2 : f (j * 9 + 2) = .int .i64 c.nd.kind
  c3 : f (j * 9 + 3) = .int .i64 c.nd.num
  c4 : f (j * 9 + 4) = .int .i64 c.nd.mat
  c5 : f (j * 9 + 5) = .string c.nd.text
  c6 : f (j * 9 + 6) = vn
  c7 : f (j * 9 + 7) = vk
  c8 : f (j * 9 + 8) = vd
def set9 (w : World) (g k : Nat) (c : Cd) (vn vk vd : Value) : World :=
  ((((((((w.setCell ⟨g, k * 9, none⟩ (.int .i64 c.op)).setCell ⟨g, k * 9 + 1, none⟩ (.int .i64 c.to)).setCell ⟨g, k * 9 + 2, none⟩ (.int .i64 c.nd.kind)).setCell ⟨g, k * 9 + 3, none⟩ (.int .i64 c.nd.num)).setCell ⟨g, k * 9 + 4, none⟩ (.int .i64 c.nd.mat)).setCell ⟨g, k * 9 + 5, none⟩ (.string c.nd.text)).setCell ⟨g, k * 9 + 6, none⟩ vn).setCell ⟨g, k * 9 + 7, none⟩ vk).setCell ⟨g, k * 9 + 8, none⟩ vd
theorem row9 {w : World} {g t N : Nat} {f : Nat → Value} (h : w.rowIs g t N f) (k : Nat) (c : Cd) (vn vk vd : Value) :
    ∃ f', (set9 w g k c vn vk vd).rowIs g t N f' ∧ L9 f' k c vn vk vd ∧ ∀ j m un uk ud, j ≠ k → L9 f j m un uk ud → L9 f' j m un uk ud := by
  refine ⟨_, (((((((((h.set _ _).set _ _).set _ _).set _ _).set _ _).set _ _).set _ _).set _ _).set _ _), ?_, ?_⟩
  · constructor <;> simp
  · intro j m un uk ud hj hl
    obtain ⟨c0, c1, c2, c3, c4, c5, c6, c7, c8⟩ := hl
    constructor <;> rw [if_neg (by omega), if_neg (by omega), if_neg (by omega), if_neg (by omega), if_neg (by omega), if_neg (by omega), if_neg (by omega), if_neg (by omega), if_neg (by omega)] <;> assumption
theorem gr9 (w : World) (g k : Nat) (c : Cd) (vn vk vd : Value) : w.grownBy (set9 w g k c vn vk vd) (some g) :=
  grN_trans (grN_trans (grN_trans (grN_trans (grN_trans (grN_trans (grN_trans (grN_trans (grN_set _ _ _ _) (grN_set _ _ _ _)) (grN_set _ _ _ _)) (grN_set _ _ _ _)) (grN_set _ _ _ _)) (grN_set _ _ _ _)) (grN_set _ _ _ _)) (grN_set _ _ _ _)) (grN_set _ _ _ _)
theorem Try.infoC : (Try.prog.info? 50).map (fun i => (i.zero, i.size, i.bytes)) = some (some (.agg #[.int .i64 0, .int .i64 0, .int .i64 0, .int .i64 0, .int .i64 0, .string ⟨#[]⟩, .slice none 0 0, .slice none 0 0, .slice none 0 0]), 9, 128) := by kernel_rfl
set_option maxHeartbeats 1000000 in
theorem lawEqCode (c : Cd) (vn vk vd un uk ud : Value) (w : World) (hI : NdIn w.heap.size w c.nd vn vk vd) (hJ : NdIn w.heap.size w c.nd un uk ud) (hf : c.nd.fits 1048576) :
    Calls Try.prog 21 #[cdV c vn vk vd, cdV c un uk ud] w fun e w' => e = .returned (.bool true) ∧ Below w.heap.size w w' := by
  have hbA : Below w.heap.size w ((w.alloc (.cells #[.int .i64 c.op, .int .i64 c.to, .int .i64 c.nd.kind, .int .i64 c.nd.num, .int .i64 c.nd.mat, .string c.nd.text, vn, vk, vd] 50)).alloc (.cells #[.int .i64 c.op, .int .i64 c.to, .int .i64 c.nd.kind, .int .i64 c.nd.num, .int .i64 c.nd.mat, .string c.nd.text, un, uk, ud] 50)) := ((Below.refl _ _).alloc (Nat.le_refl _) _).alloc (by simp) _
  have hE := mkHid (lawEqNode c.nd vn vk vd un uk ud _ ((hI.below hbA).mono hbA.size) ((hJ.below hbA).mono hbA.size) hf)
  obtain ⟨⟨a1, c1, rfl, -⟩, ⟨a2, c2, rfl, -⟩, ⟨a3, c3, rfl, -⟩⟩ := hI
  obtain ⟨⟨b1, d1, rfl, -⟩, ⟨b2, d2, rfl, -⟩, ⟨b3, d3, rfl, -⟩⟩ := hJ
  replace hbA := mkHid hbA
  clear hf
  unfold ndV at hE
  unfold cdV
  go_enter Try.func21, Try.ntmps21
  go_wp2_with fail
  refine hE.out.mono ?_
  rintro e w1 ⟨rfl, hb1⟩
  have hb2 := mkHid (hbA.out.trans (hb1.mono hbA.out.size))
  clear hE hb1 hbA
  go_wp2
  go_ret
  exact ⟨rfl, hb2.out⟩
set_option maxHeartbeats 1000000 in
set_option maxRecDepth 10000 in
theorem lawEqCodes (a b : Option Addr) (F : List Cd) (cap cap' : Nat) (w : World) (hF : Cds w.heap.size w a F) (hG : Cds w.heap.size w b F) (hlen : F.length ≤ 1048576) (hfit : ∀ f ∈ F, f.nd.fits 1048576) :
    Calls Try.prog 8 #[.slice a F.length cap, .slice b F.length cap'] w fun e w' => e = .returned (.bool true) ∧ Below w.heap.size w w' := by
  have HF := mkHid hF
  have HG := mkHid hG
  have Hfit := mkHid hfit
  clear hF hG hfit
  go_enter Try.func8, Try.ntmps8
  go_wp2
  go_loopw [5] (fun i wr => ∃ k : Nat, k ≤ F.length ∧ i = .int .i64 k ∧ Below w.heap.size w wr) (fun i _ => F.length - (Lib.intOf i).toNat)
  case atStart => exact ⟨0, Nat.zero_le _, rfl, Below.refl _ _⟩
  case round =>
    obtain ⟨k, hk, rfl, hb0⟩ := hrel
    by_cases hlt : k < F.length
    · obtain ⟨a', vn, vk, vd, rfl, ha, hA, hI⟩ := (HF.out.below hb0) k hlt
      obtain ⟨b', un, uk, ud, rfl, hb, hB, hJ⟩ := (HG.out.below hb0) k hlt
      have hE := mkHid fun (w' : World) (hb' : Below wr.heap.size wr w') => lawEqCode F[k] vn vk vd un uk ud w' (((hI.mono hb0.size).below hb').mono hb'.size) (((hJ.mono hb0.size).below hb').mono hb'.size) (Hfit.out _ (List.getElem_mem hlt))
      have c0 := hA.c0
      have c1 := hA.c1
      have c2 := hA.c2
      have c3 := hA.c3
      have c4 := hA.c4
      have c5 := hA.c5
      have c6 := hA.c6
      have c7 := hA.c7
      have c8 := hA.c8
      have d0 := hB.c0
      have d1 := hB.c1
      have d2 := hB.c2
      have d3 := hB.c3
      have d4 := hB.c4
      have d5 := hB.c5
      have d6 := hB.c6
      have d7 := hB.c7
      have d8 := hB.c8
      clear hA hB hI hJ
      generalize F[k] = n at *
      have cE : Hid (∀ d os, Calls Try.prog 21 #[cdV n vn vk vd, cdV n un uk ud] (Go.Sort.grow (redrawn wr d) os) fun e w'' => e = .returned (.bool true) ∧ ∃ p : Regrown, w'' = Go.Sort.grow (redrawn wr p.d) p.os) := fun d os => Calls.regrown_of (hE.out _ (below_regrown wr d os))
      unfold cdV at cE
      go_wp2
      have k0 := cell_regrown c0
      have l0 := cell_regrown d0
      have k1 := cell_regrown c1
      have l1 := cell_regrown d1
      have k2 := cell_regrown c2
      have l2 := cell_regrown d2
      have k3 := cell_regrown c3
      have l3 := cell_regrown d3
      have k4 := cell_regrown c4
      have l4 := cell_regrown d4
      have k5 := cell_regrown c5
      have l5 := cell_regrown d5
      have k6 := cell_regrown c6
      have l6 := cell_regrown d6
      have k7 := cell_regrown c7
      have l7 := cell_regrown d7
      have k8 := cell_regrown c8
      have l8 := cell_regrown d8
      clear hE c0 c1 c2 c3 c4 c5 c6 c7 c8 d0 d1 d2 d3 d4 d5 d6 d7 d8
      refine wp_region_quiet_below (by kernel_rfl) (by kernel_rfl) ?_
      iterate 8 (quiet_step (fail))
      quiet_step (exact cE.out _ _)
      repeat (quiet_step (fail))
      refine wpQuiet_nil ?_
      intro _ hw'
      obtain ⟨⟨dq, osq⟩, hw''⟩ := hw'
      subst hw''
      have hbq := mkHid (hb0.trans ((below_regrown wr dq osq).mono hb0.size))
      generalize Go.Sort.grow (redrawn wr dq) osq = wq at *
      clear k0 k1 k2 k3 k4 k5 k6 k7 k8 l0 l1 l2 l3 l4 l5 l6 l7 l8 cE hb0
      go_wp2
      go_roundw
      case rel => exact ⟨k + 1, by omega, by go_num, hbq.out⟩
      case measure => simp [Lib.intOf]; omega
    · go_wp2
      go_ret
      exact ⟨rfl, hb0⟩
end Go.Proofs.Ytonnmbkfjiddnaa
