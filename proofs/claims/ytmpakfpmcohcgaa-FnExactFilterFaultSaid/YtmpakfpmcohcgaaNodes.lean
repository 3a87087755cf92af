
/- Lists of a filter's nodes in memory: handed in, made anew, held against one another. -/
import Derived.Test.YtmpakfpmcohcgaaInts
import Derived.Deep.OwnRows
import Derived.Test.YtmpakfpmcohcgaaCells
namespace Go.Proofs.Ytmpakfpmcohcgaa
open Go.RowKit Go.Lib Go.Maps
structure Nd where
  kind : Int
  num : Int
  mat : Int
  text : ByteArray
  names : List ByteArray
  keys : List ByteArray
  kids : List Int
/-- A node's value: its three lists are given as values. -/
def ndV (n : Nd) (vn vk vd : Value) : Value := .agg #[.int .i64 n.kind, .int .i64 n.num, .int .i64 n.mat, .string n.text, vn, vk, vd]
/-- The three lists of a node, in blocks below B. -/
structure NdIn (B : Nat) (w : World) (n : Nd) (vn vk vd : Value) : Prop where
  names : ∃ a c, vn = .slice a n.names.length c ∧ Tx B w a n.names
  keys : ∃ a c, vk = .slice a n.keys.length c ∧ Tx B w a n.keys
  kids : ∃ a c, vd = .slice a n.kids.length c ∧ Ints B w a n.kids
theorem NdIn.below {B : Nat} {w w' : World} {n : Nd} {vn vk vd : Value} (h : NdIn B w n vn vk vd) (hb : Below B w w') : NdIn B w' n vn vk vd := by
  obtain ⟨⟨a, c, e1, t1⟩, ⟨a2, c2, e2, t2⟩, ⟨a3, c3, e3, t3⟩⟩ := h
  exact ⟨⟨a, c, e1, t1.below hb⟩, ⟨a2, c2, e2, t2.below hb⟩, ⟨a3, c3, e3, t3.below hb⟩⟩
theorem NdIn.mono {B B' : Nat} {w : World} {n : Nd} {vn vk vd : Value} (h : NdIn B w n vn vk vd) (hB : B ≤ B') : NdIn B' w n vn vk vd := by
  obtain ⟨⟨a, c, e1, t1⟩, ⟨a2, c2, e2, t2⟩, ⟨a3, c3, e3, t3⟩⟩ := h
  exact ⟨⟨a, c, e1, t1.mono hB⟩, ⟨a2, c2, e2, t2.mono hB⟩, ⟨a3, c3, e3, t3.mono hB⟩⟩
/-- The seven cells of a node. -/
structure NdAt (w : World) (A : Addr) (n : Nd) (vn vk vd : Value) : Prop where
  c0 : w.cell? A = some (.int .i64 n.kind)
  c1 : w.cell? ⟨A.block, A.off + 1, none⟩ = some (.int .i64 n.num)
  c2 : w.cell? ⟨A.block, A.off + 2, none⟩ = some (.int .i64 n.mat)
  c3 : w.cell? ⟨A.block, A.off + 3, none⟩ = some (.string n.text)
  c4 : w.cell? ⟨A.block, A.off + 4, none⟩ = some vn
  c5 : w.cell? ⟨A.block, A.off + 5, none⟩ = some vk
  c6 : w.cell? ⟨A.block, A.off + 6, none⟩ = some vd
theorem NdAt.below {B : Nat} {w w' : World} {A : Addr} {n : Nd} {vn vk vd : Value} (h : NdAt w A n vn vk vd) (hb : Below B w w') (hA : A.block < B) : NdAt w' A n vn vk vd :=
  ⟨(hb.cell hA).trans h.c0, (hb.cell (p := ⟨A.block, A.off + 1, none⟩) hA).trans h.c1, (hb.cell (p := ⟨A.block, A.off + 2, none⟩) hA).trans h.c2, (hb.cell (p := ⟨A.block, A.off + 3, none⟩) hA).trans h.c3, (hb.cell (p := ⟨A.block, A.off + 4, none⟩) hA).trans h.c4, (hb.cell (p := ⟨A.block, A.off + 5, none⟩) hA).trans h.c5, (hb.cell (p := ⟨A.block, A.off + 6, none⟩) hA).trans h.c6⟩
/-- The slice's elements, below a block, are these nodes. -/
def Nds (B : Nat) (w : World) (o : Option Addr) (F : List Nd) : Prop :=
  ∀ i (h : i < F.length), ∃ a vn vk vd, o = some a ∧ a.block < B ∧ NdAt w (a.add (i * 7)) F[i] vn vk vd ∧ NdIn B w F[i] vn vk vd
theorem add_blockN (a : Addr) (n : Nat) : (a.add n).block = a.block := by unfold Addr.add; split <;> rfl
theorem Nds.below {B : Nat} {w w' : World} {o : Option Addr} {F : List Nd} (h : Nds B w o F) (hb : Below B w w') : Nds B w' o F := by
  intro i hi
  obtain ⟨a, vn, vk, vd, ho, ha, h1, h2⟩ := h i hi
  exact ⟨a, vn, vk, vd, ho, ha, h1.below hb (by rw [add_blockN]; exact ha), h2.below hb⟩
theorem Nds.mono {B B' : Nat} {w : World} {o : Option Addr} {F : List Nd} (h : Nds B w o F) (hB : B ≤ B') : Nds B' w o F := by
  intro i hi
  obtain ⟨a, vn, vk, vd, ho, ha, h1, h2⟩ := h i hi
  exact ⟨a, vn, vk, vd, ho, by omega, h1, h2.mono hB⟩
/-- Small enough to be looked at. -/
def Nd.fits (n : Nd) (m : Nat) : Prop := n.text.size ≤ m ∧ n.names.length ≤ m ∧ (∀ t ∈ n.names, t.size ≤ m) ∧ n.keys.length ≤ m ∧ (∀ t ∈ n.keys, t.size ≤ m) ∧ n.kids.length ≤ m
set_option maxHeartbeats 1000000 in
theorem lawSzNode (n : Nd) (vn vk vd : Value) (left : Nat) (w : World) (hI : NdIn w.heap.size w n vn vk vd) (hf : n.fits maxLen) (hl : left ≤ 1048576) :
    Calls Try.prog 9 #[ndV n vn vk vd, .int .i64 left] w fun e w' => ∃ r : Int, e = .returned (.int .i64 r) ∧ Hid (r = -1 ∨ ∃ m : Nat, r = m ∧ m ≤ left ∧ n.fits 1048576) ∧ Below w.heap.size w w' := by
  obtain ⟨⟨a1, c1, rfl, t1⟩, ⟨a2, c2, rfl, t2⟩, ⟨a3, c3, rfl, -⟩⟩ := hI
  obtain ⟨f1, f2, f3, f4, f5, f6⟩ := hf
  unfold maxLen at f1
  have HT1 := mkHid fun (w' : World) (hb : Below w.heap.size w w') (m : Nat) (hm : m ≤ 1048576) => lawSzTextsB a1 n.names c1 m w' ((t1.below hb).mono hb.size) f2 f3 hm
  have HT2 := mkHid fun (w' : World) (hb : Below w.heap.size w w') (m : Nat) (hm : m ≤ 1048576) => lawSzTextsB a2 n.keys c2 m w' ((t2.below hb).mono hb.size) f4 f5 hm
  have HT3 := mkHid fun (w' : World) (m : Nat) (hm : m ≤ 1048576) => lawSzInts a3 n.kids.length c3 m w' f6 hm
  clear t1 t2 f2 f3 f4 f5 f6
  unfold ndV
  by_cases h1 : left < n.text.size
  · go_enter Try.func9, Try.ntmps9
    go_wp2
    go_ret
    exact ⟨-1, rfl, .inl rfl, (Below.refl _ _).alloc (Nat.le_refl _) _⟩
  · obtain ⟨l1, hl1⟩ : ∃ l1 : Nat, left - n.text.size = l1 := ⟨_, rfl⟩
    have hl2 : (left : Int) - (n.text.size : Int) = (l1 : Int) := by omega
    have hl3 : l1 ≤ left := by omega
    have hf0 : Hid (n.text.size ≤ 1048576) := by show _ ≤ _; omega
    obtain ⟨W, hW⟩ : ∃ W, W = w.alloc (.cells #[.int .i64 n.kind, .int .i64 n.num, .int .i64 n.mat, .string n.text, .slice a1 n.names.length c1, .slice a2 n.keys.length c2, .slice a3 n.kids.length c3] 33) := ⟨_, rfl⟩
    have hbW : Below w.heap.size w W := by rw [hW]; exact (Below.refl _ _).alloc (Nat.le_refl _) _
    have hWs : w.heap.size < W.heap.size := by rw [hW]; simp
    have q5 : W.cell? ⟨w.heap.size, 5, none⟩ = some (.slice a2 n.keys.length c2) := by rw [hW]; simp
    have q6 : W.cell? ⟨w.heap.size, 6, none⟩ = some (.slice a3 n.kids.length c3) := by rw [hW]; simp
    have hW := mkHid hW
    go_enter Try.func9, Try.ntmps9
    go_wp2_with fail
    rw [← hW.out]
    refine (HT1.out W hbW l1 (by omega)).mono ?_
    rintro e w1 ⟨r1, rfl, hr1, hb1⟩
    have p5 := (hb1.cell (p := ⟨w.heap.size, 5, none⟩) hWs).trans q5
    have p6 := (hb1.cell (p := ⟨w.heap.size, 6, none⟩) hWs).trans q6
    have hs1 := hb1.size
    have hbw1 := hbW.trans (hb1.mono (Nat.le_of_lt hWs))
    clear q5 q6 hb1 hW
    rcases hr1 with rfl | ⟨g1, g2, g3, g4⟩
    · go_wp2
      go_ret
      exact ⟨-1, rfl, .inl rfl, hbw1⟩
    · obtain ⟨l2, rfl⟩ : ∃ l2 : Nat, r1 = l2 := ⟨r1.toNat, by omega⟩
      replace g4 := mkHid g4
      go_wp2_with fail
      refine (HT2.out w1 hbw1 l2 (by omega)).mono ?_
      rintro e w2 ⟨r2, rfl, hr2, hb2⟩
      have s6 := (hb2.cell (p := ⟨w.heap.size, 6, none⟩) (Nat.lt_of_lt_of_le hWs hs1)).trans p6
      have hbw2 := hbw1.trans (hb2.mono (Nat.le_trans (Nat.le_of_lt hWs) hs1))
      clear p5 p6 hb2
      rcases hr2 with rfl | ⟨k1, k2, k3, k4⟩
      · go_wp2
        go_ret
        exact ⟨-1, rfl, .inl rfl, hbw2⟩
      · obtain ⟨l3, rfl⟩ : ∃ l3 : Nat, r2 = l3 := ⟨r2.toNat, by omega⟩
        replace k4 := mkHid k4
        go_wp2_with fail
        refine (HT3.out w2 l3 (by omega)).mono ?_
        rintro e w3 ⟨r3, rfl, hr3, hb3⟩
        have hbw3 := hbw2.trans (hb3.mono hbw2.size)
        clear hb3 s6
        rcases hr3 with rfl | ⟨m1, m2, m3⟩
        · go_wp2
          go_ret
          exact ⟨-1, rfl, .inl rfl, hbw3⟩
        · obtain ⟨l4, rfl⟩ : ∃ l4 : Nat, r3 = l4 := ⟨r3.toNat, by omega⟩
          go_wp2
          go_ret
          exact ⟨_, rfl, .inr ⟨l4, rfl, by omega, hf0.out, g3, g4.out, k3, k4.out, m3⟩, hbw3⟩
set_option maxHeartbeats 1000000 in
theorem lawSzNodes (o : Option Addr) (F : List Nd) (cap : Nat) (w : World) (hF : Nds w.heap.size w o F) (hlen : F.length ≤ maxLen) (hsz : ∀ f ∈ F, f.fits maxLen) :
    Calls Try.prog 4 #[.slice o F.length cap, .int .i64 1048576] w fun e w' => ∃ r : Int, e = .returned (.int .i64 r) ∧ Hid (r = -1 ∨ 0 ≤ r ∧ F.length ≤ 1048576 ∧ ∀ f ∈ F, f.fits 1048576) ∧ Below w.heap.size w w' := by
  unfold maxLen at hlen
  by_cases hn : 1048576 < F.length
  · clear hF hsz
    go_enter Try.func4, Try.ntmps4
    go_wp2
    go_ret
    exact ⟨-1, rfl, Or.inl rfl, Below.refl _ _⟩
  · have HF : Hid (Nds w.heap.size w o F) := hF
    have Hsz : Hid (∀ f ∈ F, f.fits maxLen) := hsz
    clear hF hsz
    go_enter Try.func4, Try.ntmps4
    go_wp2
    go_loopw [1, 5] (fun l i wr => ∃ (k m : Nat), k ≤ F.length ∧ i = .int .i64 k ∧ m ≤ 1048576 ∧ l = .int .i64 m ∧ Hid (∀ j (h : j < F.length), j < k → F[j].fits 1048576) ∧ Below w.heap.size w wr) (fun _ i _ => F.length - (Lib.intOf i).toNat)
    case atStart => exact ⟨0, 1048576 - F.length, Nat.zero_le _, rfl, by omega, by go_num, fun j h h0 => absurd h0 (Nat.not_lt_zero _), Below.refl _ _⟩
    case round =>
      obtain ⟨k, m, hk, rfl, hm, rfl, hall, hb⟩ := hrel
      by_cases hlt : k < F.length
      · obtain ⟨a, vn, vk, vd, rfl, ha, hA, hI⟩ := (HF.out.below hb) k hlt
        have hS := mkHid fun (w' : World) (hb' : Below wr.heap.size wr w') => lawSzNode F[k] vn vk vd m w' (((hI.mono hb.size).below hb').mono hb'.size) (Hsz.out _ (List.getElem_mem hlt)) hm
        have c0 := hA.c0
        have c1 := hA.c1
        have c2 := hA.c2
        have c3 := hA.c3
        have c4 := hA.c4
        have c5 := hA.c5
        have c6 := hA.c6
        clear hA hI
        generalize hf : F[k] = f at *
        have Hf := mkHid hf
        clear hf
        go_wp2_with fail
        refine (hS.out wr (Below.refl _ _)).mono ?_
        rintro e w1 ⟨r1, rfl, hr1, hb1⟩
        have hb2 := mkHid (hb.trans (hb1.mono hb.size))
        clear hS c0 c1 c2 c3 c4 c5 c6 hb1 hb
        rcases hr1.out with rfl | ⟨m1, rfl, hm1, hft⟩
        · go_wp2
          go_ret
          exact ⟨-1, rfl, Or.inl rfl, hb2.out⟩
        · replace hft := mkHid hft
          clear hr1
          go_wp2
          go_roundw
          case rel =>
            refine ⟨k + 1, m1, by omega, by go_num, by omega, rfl, ?_, hb2.out⟩
            intro j h hj
            by_cases hjk : j < k
            · exact hall.out j h hjk
            · have : j = k := by omega
              subst this
              rw [Hf.out]; exact hft.out
          case measure => simp [Lib.intOf]; omega
      · have Hall : Hid (∀ f ∈ F, f.fits 1048576) := by
          intro t ht
          obtain ⟨j, hj, rfl⟩ := List.getElem_of_mem ht
          exact hall.out j hj (by omega)
        go_wp2
        go_ret
        exact ⟨_, rfl, Or.inr ⟨by omega, by omega, Hall.out⟩, hb⟩
theorem hp_allocN (w : World) (o : Obj) : (w.alloc o).heap[w.heap.size]? = some o := by
  show (w.heap.push o)[w.heap.size]? = some o
  simp
theorem hp_setN (w : World) (g j k : Nat) (v : Value) (h : g ≠ k) : (w.setCell ⟨g, j, none⟩ v).heap[k]? = w.heap[k]? := by
  simp [World.setCell, Array.getElem?_modify, h]
theorem Tx.setN {B g b j : Nat} {w : World} {v : Value} {ps : List ByteArray} (h : Tx B w (some ⟨g, 0, none⟩) ps) (hne : b ≠ g) : Tx B (w.setCell ⟨b, j, none⟩ v) (some ⟨g, 0, none⟩) ps := by
  intro k hk
  obtain ⟨a, e, ha, hc⟩ := h k hk
  cases e
  refine ⟨_, rfl, ha, ?_⟩
  rw [← hc, add_off]
  unfold World.cell?
  rw [show (⟨g, k, none⟩ : Addr).block = g from rfl, hp_setN _ _ _ _ _ hne]
theorem Tx.rowN {B g b : Nat} {w : World} {cs : Array Value} {ps : List ByteArray} (h : Tx B w (some ⟨g, 0, none⟩) ps) (hne : b ≠ g) : Tx B (w.setRow b cs) (some ⟨g, 0, none⟩) ps := by
  intro k hk
  obtain ⟨a, e, ha, hc⟩ := h k hk
  cases e
  refine ⟨_, rfl, ha, ?_⟩
  rw [← hc, add_off]
  unfold World.cell?
  rw [show (⟨g, k, none⟩ : Addr).block = g from rfl, setRow_other w b g cs hne.symm]
theorem Ints.rowN {B g b : Nat} {w : World} {cs : Array Value} {ps : List Int} (h : Ints B w (some ⟨g, 0, none⟩) ps) (hne : b ≠ g) : Ints B (w.setRow b cs) (some ⟨g, 0, none⟩) ps := by
  intro k hk
  obtain ⟨a, e, ha, hc⟩ := h k hk
  cases e
  refine ⟨_, rfl, ha, ?_⟩
  rw [← hc, add_off]
  unfold World.cell?
  rw [show (⟨g, k, none⟩ : Addr).block = g from rfl, setRow_other w b g cs hne.symm]
theorem Ints.setN {B g b j : Nat} {w : World} {v : Value} {ps : List Int} (h : Ints B w (some ⟨g, 0, none⟩) ps) (hne : b ≠ g) : Ints B (w.setCell ⟨b, j, none⟩ v) (some ⟨g, 0, none⟩) ps := by
  intro k hk
  obtain ⟨a, e, ha, hc⟩ := h k hk
  cases e
  refine ⟨_, rfl, ha, ?_⟩
  rw [← hc, add_off]
  unfold World.cell?
  rw [show (⟨g, k, none⟩ : Addr).block = g from rfl, hp_setN _ _ _ _ _ hne]
set_option maxHeartbeats 4000000 in
set_option maxRecDepth 20000 in
theorem lawToNode (n : Nd) (vn vk vd : Value) (w : World) (hI : NdIn w.heap.size w n vn vk vd) (hf : n.fits 1048576) :
    Calls Try.prog 11 #[ndV n vn vk vd] w fun e w' => ∃ g1 g2 g3 : Nat, e = .returned (ndV n (.slice (some ⟨g1, 0, none⟩) n.names.length n.names.length) (.slice (some ⟨g2, 0, none⟩) n.keys.length n.keys.length) (.slice (some ⟨g3, 0, none⟩) n.kids.length n.kids.length)) ∧ Hid ((w.heap.size < g1 ∧ w.heap.size < g2 ∧ w.heap.size < g3) ∧ Tx w'.heap.size w' (some ⟨g1, 0, none⟩) n.names ∧ Tx w'.heap.size w' (some ⟨g2, 0, none⟩) n.keys ∧ Ints w'.heap.size w' (some ⟨g3, 0, none⟩) n.kids) ∧ Below w.heap.size w w' := by
  obtain ⟨⟨a1, c1, rfl, t1⟩, ⟨a2, c2, rfl, t2⟩, ⟨a3, c3, rfl, t3⟩⟩ := hI
  obtain ⟨f1, f2, f3, f4, f5, f6⟩ := hf
  have HT1 := mkHid fun (w' : World) (hb : Below w.heap.size w w') => lawToTexts a1 n.names c1 w' ((t1.below hb).mono hb.size) f2
  have HT2 := mkHid fun (w' : World) (hb : Below w.heap.size w w') => lawToTexts a2 n.keys c2 w' ((t2.below hb).mono hb.size) f4
  have HT3 := mkHid fun (w' : World) (hb : Below w.heap.size w w') => lawToInts a3 n.kids c3 w' ((t3.below hb).mono hb.size) f6
  clear t1 t2 t3 f3 f5
  obtain ⟨G, hG⟩ : ∃ G, w.heap.size = G := ⟨_, rfl⟩
  obtain ⟨W, hW⟩ : ∃ W, W = ((w.alloc (.cells #[.int .i64 n.kind, .int .i64 n.num, .int .i64 n.mat, .string n.text, .slice a1 n.names.length c1, .slice a2 n.keys.length c2, .slice a3 n.kids.length c3] 33)).alloc (.cells #[.int .i64 0, .int .i64 0, .int .i64 0, .string ⟨#[]⟩, .slice none 0 0, .slice none 0 0, .slice none 0 0] 34)).alloc (.cells #[Value.int .i64 n.kind, .int .i64 n.num, .int .i64 n.mat, .string n.text, .slice none 0 0, .slice none 0 0, .slice none 0 0] 34) := ⟨_, rfl⟩
  have hbW : Below w.heap.size w W := by rw [hW]; exact (((Below.refl _ _).alloc (Nat.le_refl _) _).alloc (by simp) _).alloc (by simp; omega) _
  have hWs : W.heap.size = G + 3 := by rw [hW, ← hG]; simp
  have hP : W.heap[G]? = some (.cells #[.int .i64 n.kind, .int .i64 n.num, .int .i64 n.mat, .string n.text, .slice a1 n.names.length c1, .slice a2 n.keys.length c2, .slice a3 n.kids.length c3] 33 (0, 0)) := by rw [hW, ← hG]; exact (Below.heap_alloc _ _ _ (by simp; omega)).trans ((Below.heap_alloc _ _ _ (by simp)).trans (hp_allocN _ _))
  have hR : W.heap[G + 1]? = some (.cells #[.int .i64 0, .int .i64 0, .int .i64 0, .string ⟨#[]⟩, .slice none 0 0, .slice none 0 0, .slice none 0 0] 34 (0, 0)) := by
    rw [hW]
    refine (Below.heap_alloc _ _ _ (by simp; omega)).trans ?_
    rw [show G + 1 = (w.alloc (.cells #[.int .i64 n.kind, .int .i64 n.num, .int .i64 n.mat, .string n.text, .slice a1 n.names.length c1, .slice a2 n.keys.length c2, .slice a3 n.kids.length c3] 33)).heap.size by simp; omega]
    exact hp_allocN _ _
  have hO : W.heap[G + 1 + 1]? = some (.cells #[Value.int .i64 n.kind, .int .i64 n.num, .int .i64 n.mat, .string n.text, .slice none 0 0, .slice none 0 0, .slice none 0 0] 34 (0, 0)) := by
    rw [hW]
    rw [show G + 1 + 1 = ((w.alloc (.cells #[.int .i64 n.kind, .int .i64 n.num, .int .i64 n.mat, .string n.text, .slice a1 n.names.length c1, .slice a2 n.keys.length c2, .slice a3 n.kids.length c3] 33)).alloc (.cells #[.int .i64 0, .int .i64 0, .int .i64 0, .string ⟨#[]⟩, .slice none 0 0, .slice none 0 0, .slice none 0 0] 34)).heap.size by simp; omega]
    exact hp_allocN _ _
  have HW := mkHid hW
  clear hW
  have hG' := mkHid hG
  have e1 : w.heap.size + 1 = G + 1 := by omega
  have e2 : w.heap.size + 1 + 1 = G + 2 := by omega
  unfold ndV
  go_enter Try.func11, Try.ntmps11
  go_wp2_with fail
  rw [← HW.out]
  refine (HT1.out W hbW).mono ?_
  rintro e w1 ⟨rfl, hT1, hb1⟩
  rw [hWs] at hT1 hb1 ⊢
  have hs1 := hb1.size
  rw [hWs] at hs1
  have hP0 := hP
  have hR0 := hR
  have hO0 := hO
  have hP1 : w1.heap[G]? = some (.cells #[.int .i64 n.kind, .int .i64 n.num, .int .i64 n.mat, .string n.text, .slice a1 n.names.length c1, .slice a2 n.keys.length c2, .slice a3 n.kids.length c3] 33 (0, 0)) := (hb1.block G (by omega)).trans hP0
  have hR1 : w1.heap[G + 1]? = some (.cells #[.int .i64 0, .int .i64 0, .int .i64 0, .string ⟨#[]⟩, .slice none 0 0, .slice none 0 0, .slice none 0 0] 34 (0, 0)) := (hb1.block (G + 1) (by omega)).trans hR0
  have hO1 : w1.heap[G + 1 + 1]? = some (.cells #[Value.int .i64 n.kind, .int .i64 n.num, .int .i64 n.mat, .string n.text, .slice none 0 0, .slice none 0 0, .slice none 0 0] 34 (0, 0)) := (hb1.block (G + 1 + 1) (by omega)).trans hO0
  have x1 : w1.cell? ⟨G + 1 + 1, 4, none⟩ = some (.slice none 0 0) := by simp [World.cell?, hO1]
  have z1 : w1.frozen? ⟨G + 1 + 1, 4, none⟩ = false := by simp [World.frozen?, hO1]
  have y1 : w1.cell? ⟨G, 5, none⟩ = some (.slice a2 n.keys.length c2) := by simp [World.cell?, hP1]
  obtain ⟨V1, hV1⟩ : ∃ V, V = w1.setCell ⟨G + 1 + 1, 4, none⟩ (.slice (some ⟨G + 3, 0, none⟩) n.names.length n.names.length) := ⟨_, rfl⟩
  have hP1b : V1.heap[G]? = some (.cells #[.int .i64 n.kind, .int .i64 n.num, .int .i64 n.mat, .string n.text, .slice a1 n.names.length c1, .slice a2 n.keys.length c2, .slice a3 n.kids.length c3] 33 (0, 0)) := by rw [hV1]; exact (hp_setN _ _ _ _ _ (by omega)).trans hP1
  have hR1b : V1.heap[G + 1]? = some (.cells #[.int .i64 0, .int .i64 0, .int .i64 0, .string ⟨#[]⟩, .slice none 0 0, .slice none 0 0, .slice none 0 0] 34 (0, 0)) := by rw [hV1]; exact (hp_setN _ _ _ _ _ (by omega)).trans hR1
  have hO1b : V1.heap[G + 1 + 1]? = some (.cells #[Value.int .i64 n.kind, .int .i64 n.num, .int .i64 n.mat, .string n.text, .slice (some ⟨G + 3, 0, none⟩) n.names.length n.names.length, .slice none 0 0, .slice none 0 0] 34 (0, 0)) := by rw [hV1]; simp [World.setCell, Array.getElem?_modify, hO1]
  have hs1b : V1.heap.size = w1.heap.size := by rw [hV1]; simp [World.setCell]
  have hbw1 : Below w.heap.size w V1 := by rw [hV1]; exact (hbW.trans (hb1.mono (by omega))).setCell (p := ⟨G + 1 + 1, 4, none⟩) (by show w.heap.size ≤ G + 1 + 1; omega) _
  have T1b : Hid (Tx V1.heap.size V1 (some ⟨G + 3, 0, none⟩) n.names) := by rw [hV1]; exact (hT1.out.setN (by omega)).mono (by simp [World.setCell])
  replace hV1 := mkHid hV1
  clear hP hR hO hP0 hR0 hO0 hP1 hR1 hO1 hT1
  go_wp2_with fail
  rw [← hV1.out]
  refine (HT2.out V1 hbw1).mono ?_
  rintro e w2 ⟨rfl, hT2, hb2⟩
  have hs2a := hb2.size
  obtain ⟨g2, hg2⟩ : ∃ g2, V1.heap.size = g2 := ⟨_, rfl⟩
  rw [hg2] at hT2 hb2 T1b hs1b hs2a ⊢
  have hg2l : G + 3 ≤ g2 := by omega
  clear x1 z1 y1 hV1 hb1 hs1 hs1b hg2
  have hs2 : g2 ≤ w2.heap.size := hs2a
  have hP1 := hP1b
  have hR1 := hR1b
  have hO1 := hO1b
  have hP2 : w2.heap[G]? = some (.cells #[.int .i64 n.kind, .int .i64 n.num, .int .i64 n.mat, .string n.text, .slice a1 n.names.length c1, .slice a2 n.keys.length c2, .slice a3 n.kids.length c3] 33 (0, 0)) := (hb2.block G (by omega)).trans hP1
  have hR2 : w2.heap[G + 1]? = some (.cells #[.int .i64 0, .int .i64 0, .int .i64 0, .string ⟨#[]⟩, .slice none 0 0, .slice none 0 0, .slice none 0 0] 34 (0, 0)) := (hb2.block (G + 1) (by omega)).trans hR1
  have hO2 : w2.heap[G + 1 + 1]? = some (.cells #[Value.int .i64 n.kind, .int .i64 n.num, .int .i64 n.mat, .string n.text, .slice (some ⟨G + 3, 0, none⟩) n.names.length n.names.length, .slice none 0 0, .slice none 0 0] 34 (0, 0)) := (hb2.block (G + 1 + 1) (by omega)).trans hO1
  have x2 : w2.cell? ⟨G + 1 + 1, 5, none⟩ = some (.slice none 0 0) := by simp [World.cell?, hO2]
  have z2 : w2.frozen? ⟨G + 1 + 1, 5, none⟩ = false := by simp [World.frozen?, hO2]
  have y2 : w2.cell? ⟨G, 6, none⟩ = some (.slice a3 n.kids.length c3) := by simp [World.cell?, hP2]
  obtain ⟨V2, hV2⟩ : ∃ V, V = w2.setCell ⟨G + 1 + 1, 5, none⟩ (.slice (some ⟨g2, 0, none⟩) n.keys.length n.keys.length) := ⟨_, rfl⟩
  have hP2b : V2.heap[G]? = some (.cells #[.int .i64 n.kind, .int .i64 n.num, .int .i64 n.mat, .string n.text, .slice a1 n.names.length c1, .slice a2 n.keys.length c2, .slice a3 n.kids.length c3] 33 (0, 0)) := by rw [hV2]; exact (hp_setN _ _ _ _ _ (by omega)).trans hP2
  have hR2b : V2.heap[G + 1]? = some (.cells #[.int .i64 0, .int .i64 0, .int .i64 0, .string ⟨#[]⟩, .slice none 0 0, .slice none 0 0, .slice none 0 0] 34 (0, 0)) := by rw [hV2]; exact (hp_setN _ _ _ _ _ (by omega)).trans hR2
  have hO2b : V2.heap[G + 1 + 1]? = some (.cells #[Value.int .i64 n.kind, .int .i64 n.num, .int .i64 n.mat, .string n.text, .slice (some ⟨G + 3, 0, none⟩) n.names.length n.names.length, .slice (some ⟨g2, 0, none⟩) n.keys.length n.keys.length, .slice none 0 0] 34 (0, 0)) := by rw [hV2]; simp [World.setCell, Array.getElem?_modify, hO2]
  have hs2b : V2.heap.size = w2.heap.size := by rw [hV2]; simp [World.setCell]
  have hbw2 : Below w.heap.size w V2 := by rw [hV2]; exact (hbw1.trans (hb2.mono (by omega))).setCell (p := ⟨G + 1 + 1, 5, none⟩) (by show w.heap.size ≤ G + 1 + 1; omega) _
  have T1c : Hid (Tx V2.heap.size V2 (some ⟨G + 3, 0, none⟩) n.names) := by rw [hV2]; exact ((T1b.out.below hb2).mono hs2).setN (by omega) |>.mono (by simp [World.setCell])
  have T2c : Hid (Tx V2.heap.size V2 (some ⟨g2, 0, none⟩) n.keys) := by rw [hV2]; exact (hT2.out.setN (by omega)).mono (by simp [World.setCell])
  replace hV2 := mkHid hV2
  clear hP1b hR1b hO1b hP1 hR1 hO1 hP2 hR2 hO2 hT2 T1b
  go_wp2_with fail
  rw [← hV2.out]
  refine (HT3.out V2 hbw2).mono ?_
  rintro e w3 ⟨rfl, hT3, hb3⟩
  have hs3a := hb3.size
  obtain ⟨g3, hg3⟩ : ∃ g3, V2.heap.size = g3 := ⟨_, rfl⟩
  rw [hg3] at hT3 hb3 T1c T2c hs2b hs3a ⊢
  have hg3l : G + 3 ≤ g3 := by omega
  have hg3g : g2 ≤ g3 := by omega
  clear x2 z2 y2 hV2 hb2 hs2 hs2a hs2b hg3
  have hs3 : g3 ≤ w3.heap.size := hs3a
  clear hs3a
  have hR3 : w3.heap[G + 1]? = some (.cells #[.int .i64 0, .int .i64 0, .int .i64 0, .string ⟨#[]⟩, .slice none 0 0, .slice none 0 0, .slice none 0 0] 34 (0, 0)) := (hb3.block (G + 1) (by omega)).trans hR2b
  have hO3 : w3.heap[G + 1 + 1]? = some (.cells #[Value.int .i64 n.kind, .int .i64 n.num, .int .i64 n.mat, .string n.text, .slice (some ⟨G + 3, 0, none⟩) n.names.length n.names.length, .slice (some ⟨g2, 0, none⟩) n.keys.length n.keys.length, .slice none 0 0] 34 (0, 0)) := (hb3.block (G + 1 + 1) (by omega)).trans hO2b
  have x3 : w3.cell? ⟨G + 1 + 1, 6, none⟩ = some (.slice none 0 0) := by simp [World.cell?, hO3]
  have z3 : w3.frozen? ⟨G + 1 + 1, 6, none⟩ = false := by simp [World.frozen?, hO3]
  have hR3b : (w3.setCell ⟨G + 1 + 1, 6, none⟩ (.slice (some ⟨g3, 0, none⟩) n.kids.length n.kids.length)).heap[G + 1]? = some (.cells #[.int .i64 0, .int .i64 0, .int .i64 0, .string ⟨#[]⟩, .slice none 0 0, .slice none 0 0, .slice none 0 0] 34 (0, 0)) := (hp_setN _ _ _ _ _ (by omega)).trans hR3
  have hO3b : (w3.setCell ⟨G + 1 + 1, 6, none⟩ (.slice (some ⟨g3, 0, none⟩) n.kids.length n.kids.length)).heap[G + 1 + 1]? = some (.cells #[Value.int .i64 n.kind, .int .i64 n.num, .int .i64 n.mat, .string n.text, .slice (some ⟨G + 3, 0, none⟩) n.names.length n.names.length, .slice (some ⟨g2, 0, none⟩) n.keys.length n.keys.length, .slice (some ⟨g3, 0, none⟩) n.kids.length n.kids.length] 34 (0, 0)) := by simp [World.setCell, Array.getElem?_modify, hO3]
  have hbw3 : Below w.heap.size w (w3.setCell ⟨G + 1 + 1, 6, none⟩ (.slice (some ⟨g3, 0, none⟩) n.kids.length n.kids.length)) := (hbw2.trans (hb3.mono (by omega))).setCell (p := ⟨G + 1 + 1, 6, none⟩) (by show w.heap.size ≤ G + 1 + 1; omega) _
  have hbw4 := mkHid (hbw3.grown (grown_setRow (w3.setCell ⟨G + 1 + 1, 6, none⟩ (.slice (some ⟨g3, 0, none⟩) n.kids.length n.kids.length)) (G + 1) #[Value.int .i64 n.kind, .int .i64 n.num, .int .i64 n.mat, .string n.text, .slice (some ⟨G + 3, 0, none⟩) n.names.length n.names.length, .slice (some ⟨g2, 0, none⟩) n.keys.length n.keys.length, .slice (some ⟨g3, 0, none⟩) n.kids.length n.kids.length]) hbw3.size (fun j hj => by cases hj; omega))
  have hTx : Hid (Tx ((w3.setCell ⟨G + 1 + 1, 6, none⟩ (.slice (some ⟨g3, 0, none⟩) n.kids.length n.kids.length)).setRow (G + 1) #[Value.int .i64 n.kind, .int .i64 n.num, .int .i64 n.mat, .string n.text, .slice (some ⟨G + 3, 0, none⟩) n.names.length n.names.length, .slice (some ⟨g2, 0, none⟩) n.keys.length n.keys.length, .slice (some ⟨g3, 0, none⟩) n.kids.length n.kids.length]).heap.size ((w3.setCell ⟨G + 1 + 1, 6, none⟩ (.slice (some ⟨g3, 0, none⟩) n.kids.length n.kids.length)).setRow (G + 1) #[Value.int .i64 n.kind, .int .i64 n.num, .int .i64 n.mat, .string n.text, .slice (some ⟨G + 3, 0, none⟩) n.names.length n.names.length, .slice (some ⟨g2, 0, none⟩) n.keys.length n.keys.length, .slice (some ⟨g3, 0, none⟩) n.kids.length n.kids.length]) (some ⟨G + 3, 0, none⟩) n.names ∧ Tx ((w3.setCell ⟨G + 1 + 1, 6, none⟩ (.slice (some ⟨g3, 0, none⟩) n.kids.length n.kids.length)).setRow (G + 1) #[Value.int .i64 n.kind, .int .i64 n.num, .int .i64 n.mat, .string n.text, .slice (some ⟨G + 3, 0, none⟩) n.names.length n.names.length, .slice (some ⟨g2, 0, none⟩) n.keys.length n.keys.length, .slice (some ⟨g3, 0, none⟩) n.kids.length n.kids.length]).heap.size ((w3.setCell ⟨G + 1 + 1, 6, none⟩ (.slice (some ⟨g3, 0, none⟩) n.kids.length n.kids.length)).setRow (G + 1) #[Value.int .i64 n.kind, .int .i64 n.num, .int .i64 n.mat, .string n.text, .slice (some ⟨G + 3, 0, none⟩) n.names.length n.names.length, .slice (some ⟨g2, 0, none⟩) n.keys.length n.keys.length, .slice (some ⟨g3, 0, none⟩) n.kids.length n.kids.length]) (some ⟨g2, 0, none⟩) n.keys ∧ Ints ((w3.setCell ⟨G + 1 + 1, 6, none⟩ (.slice (some ⟨g3, 0, none⟩) n.kids.length n.kids.length)).setRow (G + 1) #[Value.int .i64 n.kind, .int .i64 n.num, .int .i64 n.mat, .string n.text, .slice (some ⟨G + 3, 0, none⟩) n.names.length n.names.length, .slice (some ⟨g2, 0, none⟩) n.keys.length n.keys.length, .slice (some ⟨g3, 0, none⟩) n.kids.length n.kids.length]).heap.size ((w3.setCell ⟨G + 1 + 1, 6, none⟩ (.slice (some ⟨g3, 0, none⟩) n.kids.length n.kids.length)).setRow (G + 1) #[Value.int .i64 n.kind, .int .i64 n.num, .int .i64 n.mat, .string n.text, .slice (some ⟨G + 3, 0, none⟩) n.names.length n.names.length, .slice (some ⟨g2, 0, none⟩) n.keys.length n.keys.length, .slice (some ⟨g3, 0, none⟩) n.kids.length n.kids.length]) (some ⟨g3, 0, none⟩) n.kids) := by
    have hsz : w3.heap.size ≤ ((w3.setCell ⟨G + 1 + 1, 6, none⟩ (.slice (some ⟨g3, 0, none⟩) n.kids.length n.kids.length)).setRow (G + 1) #[Value.int .i64 n.kind, .int .i64 n.num, .int .i64 n.mat, .string n.text, .slice (some ⟨G + 3, 0, none⟩) n.names.length n.names.length, .slice (some ⟨g2, 0, none⟩) n.keys.length n.keys.length, .slice (some ⟨g3, 0, none⟩) n.kids.length n.kids.length]).heap.size := by simp [World.setCell]
    refine ⟨(((((T1c.out.below hb3).mono hs3).setN (by omega)).rowN (by omega)).mono hsz), (((((T2c.out.below hb3).mono hs3).setN (by omega)).rowN (by omega)).mono hsz), (((hT3.out.setN (by omega)).rowN (by omega)).mono hsz)⟩
  clear hP2b hR2b hO2b hR3 hO3 T1c T2c hT3 hb3 hbw3 hbw1 hbw2
  go_wp2_with (first | (refine wpL_load_row rfl 34 _ rfl (G + 1 + 1) _ 34 (0, 0) _ rfl hO3b Try.underlying34 rfl (by kernel_rfl) ?_) | (refine wpL_store_row rfl 34 _ _ rfl (G + 1) _ rfl rfl 34 _ hR3b (by kernel_rfl) rfl (by simp [Value.oneCell']) ?_) | go_in)
  refine bodyPost_ret (v := .agg #[Value.int .i64 n.kind, .int .i64 n.num, .int .i64 n.mat, .string n.text, .slice (some ⟨G + 3, 0, none⟩) n.names.length n.names.length, .slice (some ⟨g2, 0, none⟩) n.keys.length n.keys.length, .slice (some ⟨g3, 0, none⟩) n.kids.length n.kids.length]) (results_cell_row Try.results11 _ _ (G + 1) 34 _ (0, 0) _ rfl (setRow_heap _ _ _ _ _ _ hR3b) Try.underlying34 rfl (by kernel_rfl)) rfl ⟨G + 3, g2, g3, rfl, ⟨⟨by omega, by omega, by omega⟩, hTx.out⟩, hbw4.out⟩
end Go.Proofs.Ytmpakfpmcohcgaa
