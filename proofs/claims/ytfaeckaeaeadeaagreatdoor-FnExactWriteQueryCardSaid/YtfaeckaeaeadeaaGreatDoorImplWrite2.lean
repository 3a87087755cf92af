
/- The program's keyWords and kidsAmong; lists of texts, more. -/
import Derived.Test.YtfaeckaeaeadeaaGreatDoorImplWrite1
import Derived.Test.YtfaeckaeaeadeaaGreatDoorOwnX
import Derived.Test.YtfaeckaeaeadeaaGreatDoorQDepth
import Derived.Laws.AppendOwnNone
namespace Go.Proofs.YtfaeckaeaeadeaaGreatDoor
open Go.RowKit Go.Lib Go.Maps
theorem OwnX.zero {B : Nat} {v : Value} {P : List ByteArray} {w : World} (h : OwnX B v P w) : OwnX 0 v P w := by
  refine ⟨h.1, ?_⟩
  rcases h.2 with h | ⟨g, cap, cur, h1, -, h3⟩
  · exact .inl h
  · exact .inr ⟨g, cap, cur, h1, Nat.zero_le _, h3⟩
theorem heap_new (w : World) (o : Obj) : (w.alloc o).heap[w.heap.size]? = some o := by
  show (w.heap.push o)[w.heap.size]? = some o
  simp
theorem OwnX.one (B : Nat) (w : World) (x : ByteArray) (hB : B ≤ w.heap.size) : OwnX B (.slice (some ⟨w.heap.size, 0, none⟩) 1 1) [x] (w.alloc (.cells #[.string x] 9)) :=
  ⟨rfl, .inr ⟨w.heap.size, 1, #[.string x], rfl, hB, heap_new _ _, Nat.le_refl _, by unfold maxLen; simp, rfl, rfl⟩⟩
theorem OwnX.two (B : Nat) (w : World) (x y : ByteArray) (hB : B ≤ w.heap.size) : OwnX B (.slice (some ⟨w.heap.size, 0, none⟩) 2 2) [x, y] (w.alloc (.cells #[.string x, .string y] 9)) :=
  ⟨rfl, .inr ⟨w.heap.size, 2, #[.string x, .string y], rfl, hB, heap_new _ _, Nat.le_refl _, by unfold maxLen; simp, rfl, rfl⟩⟩
/-- A call's answer: a list of texts that lies from a block on. -/
def RetX (B : Nat) (P : List ByteArray) (w : World) (e : Ending) (w' : World) : Prop := ∃ v, e = .returned v ∧ OwnX B v P w' ∧ Below w.heap.size w w'
theorem txB_back (t : ByteArray) : txB t.data.toList = t := (txB_eq t _ rfl).symm
theorem look_empty (l : List UInt8) : ((txB l).toList == []) = l.isEmpty := by
  rw [ByteArray.toList_eq, txB_list]
  cases l <;> rfl
set_option maxHeartbeats 4000000 in
set_option maxRecDepth 20000 in
theorem implKeyWords (n : GQueryNode) (v4 v5 : Value) (w : World) (hQ : QTab w) :
    Calls Tryz.prog 34 #[GQueryNodeV n v4 v5] w (RetX w.heap.size ((Qw.keys n.kind n.name.data.toList).map txB) w) := by
  unfold GQueryNodeV
  obtain ⟨V, hV⟩ : ∃ V, V = w.alloc (.cells #[.int .i64 n.kind, .string n.name, .string n.text, .int .i64 n.num, v4, v5] 38) := ⟨_, rfl⟩
  have hbV : Below w.heap.size w V := by rw [hV]; exact (Below.refl _ _).alloc (Nat.le_refl _) _
  have c0 : V.cell? ⟨w.heap.size, 0, none⟩ = some (.int .i64 n.kind) := by rw [hV]; simp
  have c1 : V.cell? ⟨w.heap.size, 1, none⟩ = some (.string n.name) := by rw [hV]; simp
  have hgl : w.heap.size < V.heap.size := by rw [hV]; simp
  have cK := mkHid (implKeyOf n.kind n.name V (hQ.on hbV))
  have cE := mkHid (fun (W : World) (hb : Below V.heap.size V W) => (implKeyOf n.kind ⟨#[]⟩ W ((hQ.on hbV).on hb)).mono fun e w'' ⟨h1, h2⟩ => (⟨h1, hb.trans (h2.mono hb.size)⟩ : _ ∧ Below V.heap.size V w''))
  have hle := look_empty (Qw.look n.kind n.name.data.toList)
  obtain ⟨P, hP⟩ : ∃ P, (Qw.keys n.kind n.name.data.toList).map txB = P := ⟨_, rfl⟩
  rw [hP]
  unfold Qw.keys at hP
  generalize Qw.look n.kind n.name.data.toList = lk at *
  generalize hlk : txB lk = tk at *
  cases he : lk.isEmpty
  · rw [he] at hle
    have hPk : Hid (P = [tk]) := show _ = _ from by rw [← hP, he, ← hlk]; rfl
    replace hV := mkHid hV
    clear hP he hlk cE
    go_enter Tryz.func34, Tryz.ntmps34
    go_wp2_with fail
    rw [← hV.out]
    refine cK.out.mono ?_
    rintro e w1 ⟨rfl, hb1⟩
    go_wp2
    go_ret
    have hb := hbV.trans (hb1.mono hbV.size)
    refine ⟨_, rfl, ?_, hb.alloc hb.size _⟩
    rw [hPk.out]
    exact OwnX.one _ _ _ hb.size
  · rw [he] at hle
    have hPk : Hid (P = [txB (Qw.look n.kind []), n.name]) := show _ = _ from by rw [← hP, he, if_pos rfl, List.map_cons, List.map_cons, txB_back]; rfl
    replace hV := mkHid hV
    have hl0 : (⟨#[]⟩ : ByteArray).data.toList = [] := rfl
    rw [hl0] at cE
    generalize txB (Qw.look n.kind []) = tz at *
    clear hP he hlk
    go_enter Tryz.func34, Tryz.ntmps34
    go_wp2_with fail
    rw [← hV.out]
    refine cK.out.mono ?_
    rintro e w1 ⟨rfl, hb1⟩
    have r0 := (hb1.cell (p := ⟨w.heap.size, 0, none⟩) hgl).trans c0
    have r1 := (hb1.cell (p := ⟨w.heap.size, 1, none⟩) hgl).trans c1
    have hg1 : w.heap.size < w1.heap.size := Nat.lt_of_lt_of_le hgl hb1.size
    have hbw := mkHid (hbV.trans (hb1.mono hbV.size))
    have Hb1 := mkHid hb1
    have C1 := mkHid c1
    clear c0 c1 cK hb1
    go_wp2
    refine wp_region_any (by kernel_rfl) ?_
    refine wpAny_take (i := 0) (v := .pointer (some ⟨w.heap.size, 0, none⟩)) rfl (by kernel_rfl) (by kernel_rfl) (by kernel_rfl) (fun _ _ _ h => h) (Or.inl ⟨by rfl, ?_⟩) ?_
    · intro w
      go_simp
    go_simp
    refine wpAny_take (i := 3) (v := .pointer (some ⟨w.heap.size, 1, none⟩)) rfl (by kernel_rfl) (by kernel_rfl) (by kernel_rfl) (fun _ _ _ h => h) (Or.inl ⟨by rfl, ?_⟩) ?_
    · intro w
      go_simp
    go_simp
    refine wpAny_ready (rs := [1, 4]) (by kernel_rfl) (by simp) ?_
    refine AllReady.cons rfl (fun K hK => ?_) (AllReady.cons rfl (fun K hK => ?_) AllReady.nil)
    · go_simp
      refine hK _ _ ?_
      clear hK K
      go_simp
      refine wpAny_ready (rs := [2, 4]) (by kernel_rfl) (by simp) ?_
      refine AllReady.cons rfl (fun K hK => ?_) (AllReady.cons rfl (fun K hK => ?_) AllReady.nil)
      · go_simp
        go_wp2_with fail
        refine (cE.out _ (by first | exact Hb1.out | exact Hb1.out.drew | exact Hb1.out.drew.drew)).mono ?_
        rintro e w2 ⟨rfl, hb2⟩
        have s1 := (hb2.cell (p := ⟨w.heap.size, 1, none⟩) hgl).trans C1.out
        show K _ w2
        refine hK _ _ ?_
        clear hK K
        go_simp
        refine wpAny_ready (rs := [4]) (by kernel_rfl) (by simp) ?_
        refine AllReady.cons rfl (fun K hK => ?_) AllReady.nil
        go_simp
        refine hK _ _ ?_
        clear hK K
        go_simp
        refine wpAny_ready (rs := [5]) (by kernel_rfl) (by simp) ?_
        refine AllReady.cons rfl (fun K hK => ?_) AllReady.nil
        go_simp
        refine hK _ _ ?_
        clear hK K
        go_simp
        refine wpAny_ready (rs := [6]) (by kernel_rfl) (by simp) ?_
        refine AllReady.cons rfl (fun K hK => ?_) AllReady.nil
        go_simp
        refine hK _ _ ?_
        clear hK K
        go_simp
        refine wpAny_done (by kernel_rfl) ?_ _
        go_wp2
        go_ret
        have hb := hbV.trans (hb2.mono hbV.size)
        refine ⟨_, rfl, ?_, hb.alloc hb.size _⟩
        rw [hPk.out]
        exact OwnX.two _ _ _ _ hb.size
      · go_simp
        refine hK _ _ ?_
        clear hK K
        go_simp
        refine wpAny_ready (rs := [2]) (by kernel_rfl) (by simp) ?_
        refine AllReady.cons rfl (fun K hK => ?_) AllReady.nil
        go_simp
        go_wp2_with fail
        refine (cE.out _ (by first | exact Hb1.out | exact Hb1.out.drew | exact Hb1.out.drew.drew)).mono ?_
        rintro e w2 ⟨rfl, hb2⟩
        show K _ w2
        refine hK _ _ ?_
        clear hK K
        go_simp
        refine wpAny_ready (rs := [5]) (by kernel_rfl) (by simp) ?_
        refine AllReady.cons rfl (fun K hK => ?_) AllReady.nil
        go_simp
        refine hK _ _ ?_
        clear hK K
        go_simp
        refine wpAny_ready (rs := [6]) (by kernel_rfl) (by simp) ?_
        refine AllReady.cons rfl (fun K hK => ?_) AllReady.nil
        go_simp
        refine hK _ _ ?_
        clear hK K
        go_simp
        refine wpAny_done (by kernel_rfl) ?_ _
        go_wp2
        go_ret
        have hb := hbV.trans (hb2.mono hbV.size)
        refine ⟨_, rfl, ?_, hb.alloc hb.size _⟩
        rw [hPk.out]
        exact OwnX.two _ _ _ _ hb.size
    · go_simp
      refine hK _ _ ?_
      clear hK K
      go_simp
      refine wpAny_ready (rs := [1]) (by kernel_rfl) (by simp) ?_
      refine AllReady.cons rfl (fun K hK => ?_) AllReady.nil
      go_simp
      refine hK _ _ ?_
      clear hK K
      go_simp
      refine wpAny_ready (rs := [2]) (by kernel_rfl) (by simp) ?_
      refine AllReady.cons rfl (fun K hK => ?_) AllReady.nil
      go_simp
      go_wp2_with fail
      refine (cE.out _ (by first | exact Hb1.out | exact Hb1.out.drew | exact Hb1.out.drew.drew)).mono ?_
      rintro e w2 ⟨rfl, hb2⟩
      show K _ w2
      refine hK _ _ ?_
      clear hK K
      go_simp
      refine wpAny_ready (rs := [5]) (by kernel_rfl) (by simp) ?_
      refine AllReady.cons rfl (fun K hK => ?_) AllReady.nil
      go_simp
      refine hK _ _ ?_
      clear hK K
      go_simp
      refine wpAny_ready (rs := [6]) (by kernel_rfl) (by simp) ?_
      refine AllReady.cons rfl (fun K hK => ?_) AllReady.nil
      go_simp
      refine hK _ _ ?_
      clear hK K
      go_simp
      refine wpAny_done (by kernel_rfl) ?_ _
      go_wp2
      go_ret
      have hb := hbV.trans (hb2.mono hbV.size)
      refine ⟨_, rfl, ?_, hb.alloc hb.size _⟩
      rw [hPk.out]
      exact OwnX.two _ _ _ _ hb.size
set_option maxHeartbeats 4000000 in
set_option maxRecDepth 20000 in
theorem implKidsAmong (b N : Nat) (T : Nat → ByteArray) (n : GQueryNode) (v4 : Value) (a5 : Option Addr) (e5 lo : Nat) (w : World) (hrow : w.rowIs b 9 N (fun j => .string (T j))) (hI : InL lo w.heap.size w a5 n.kids) (hlen : n.kids.length ≤ 100) (hk : ∀ k ∈ n.kids, 0 ≤ k ∧ k < (N : Int)) (_hN : N ≤ 100) :
    Calls Tryz.prog 16 #[.slice (some ⟨b, 0, none⟩) N N, GQueryNodeV n v4 (.slice a5 n.kids.length e5)] w (RetX w.heap.size (n.kids.map fun k => T k.toNat) w) := by
  unfold GQueryNodeV
  obtain ⟨V, hV⟩ : ∃ V, V = w.alloc (.cells #[.int .i64 n.kind, .string n.name, .string n.text, .int .i64 n.num, v4, .slice a5 n.kids.length e5] 38) := ⟨_, rfl⟩
  have hbV : Below w.heap.size w V := by rw [hV]; exact (Below.refl _ _).alloc (Nat.le_refl _) _
  have c5 : V.cell? ⟨w.heap.size, 5, none⟩ = some (.slice a5 n.kids.length e5) := by rw [hV]; simp
  have HI := mkHid hI
  have Hk := mkHid hk
  have Hrow := mkHid hrow
  replace hV := mkHid hV
  clear hI hk hrow
  go_enter Tryz.func16, Tryz.ntmps16
  go_wp2
  rw [← hV.out]
  clear c5
  generalize hG : w.heap.size = G at *
  go_loopw [5, 11] (fun v kv wr => ∃ k : Nat, k ≤ n.kids.length ∧ kv = .int .i64 k ∧ OwnX G v ((n.kids.map fun k => T k.toNat).take k) wr ∧ Below G w wr) (fun _ kv _ => n.kids.length - (Lib.intOf kv).toNat)
  case atStart => exact ⟨0, Nat.zero_le _, rfl, by rw [List.take_zero]; exact OwnX.nil _ _, hbV⟩
  case round =>
    obtain ⟨k, hk, rfl, hown, hb⟩ := hrel
    have hsz := hb.size
    by_cases hlt : k < n.kids.length
    · obtain ⟨a, rfl, ha0, ha, ck⟩ := (HI.out.below hb (Nat.le_refl _)) k hlt
      obtain ⟨k1, k2⟩ := Hk.out n.kids[k] (List.getElem_mem hlt)
      obtain ⟨q, hq⟩ : ∃ q : Nat, n.kids[k] = (q : Int) := ⟨n.kids[k].toNat, by omega⟩
      have hst : Hid ((n.kids.map fun k => T k.toNat).take (k + 1) = (n.kids.map fun k => T k.toNat).take k ++ [T q]) := show _ = _ from by
        rw [List.take_succ_eq_append_getElem (by simpa using hlt), List.getElem_map, hq, Int.toNat_natCast]
      rw [hq] at ck k2
      have hqN : q < N := by omega
      have hrw := row_below Hrow.out (hG ▸ hb)
      have cq := hrw.cell (i := q) hqN
      have hll : ((n.kids.map fun k => T k.toNat).take k).length ≤ 1000000 := by rw [List.length_take, List.length_map]; omega
      have hqI : (q : Int) < (N : Int) := by omega
      generalize (n.kids.map fun k => T k.toNat).take k = C at *
      generalize T q = t at *
      clear hq k1 k2 hrw
      obtain ⟨vo, cap, rfl⟩ := hown.shape
      go_wp2_with (at_builtin; go_must (refine wp_appX rfl _ _ rfl G (.slice vo C.length cap) C rfl hown t 1 rfl hll (by omega) ?_; intro v' w' hown' hg'))
      have hb2 : Below G w w' := (hb.alloc (hG ▸ hsz) _).grown hg' (by simp; omega) (fun k hk => (World.ownsRow.lt hown k hk).1)
      go_roundw
      case rel => exact ⟨k + 1, by omega, by go_num, by rw [hst.out]; exact hown', hb2⟩
      case measure => simp [Lib.intOf]; omega
    · have he : Hid ((n.kids.map fun k => T k.toNat).take k = n.kids.map fun k => T k.toNat) := show _ = _ from List.take_of_length_le (by simp; omega)
      obtain ⟨C, hC⟩ : ∃ C, (n.kids.map fun k => T k.toNat).take k = C := ⟨_, rfl⟩
      rw [hC] at hown he
      clear hC
      go_wp2
      go_ret
      refine ⟨_, rfl, ?_, by first | exact hb | (rw [hG]; exact hb)⟩
      rw [← he.out]
      first | exact hown | (rw [hG]; exact hown)
end Go.Proofs.YtfaeckaeaeadeaaGreatDoor
