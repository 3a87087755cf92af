
/- The walk of UnBase64. -/

/- A word's bytes by the letter that tells its coding: the program's side. -/

/- Plain mathematics of the set latin9: the eight bytes that are not the points of their numbers, from both sides. -/
import Derived.Test.YtajkahpkbeobaaaGreatDoorU64Digits
import Derived.Test.YtajkahpkbeobaaaGreatDoorU64Value
import Derived.Test.YtajkahpkbeobaaaGreatDoorSubjFind
import Derived.Maps.RangeWalk
import Derived.Maps.Ext
import Derived.Maps.OwnSet
namespace Go.Proofs.YtajkahpkbeobaaaGreatDoor
open Go.RowKit Go.Lib
set_option maxRecDepth 20000 in
/-- An append of bytes that lie somewhere. -/
theorem wp_appc {P : Program} {W w : World} {ops : Array Oper} {rest : List Oper} {o : Oper} {a : Act} {Q : Exit → Act → World → Prop} (hgd : o.guard = none) (s x : Operand) (t : TypeId)
    (ho : o.op = .call { callee := .builtin .append, args := #[s, x], argTypes := #[t, t] })
    (i : TypeInfo) (ht : P.underlying t = some (.slice 5)) (hi : P.info? 5 = some i) (hz : i.zero = some (.int .u8 0)) (hsize : i.size = 1) (hby : i.bytes = 1)
    (B : Nat) (v : Value) (p : List UInt8) (hs : a.eval s = v) (hown : Own B v p w) (ad : Addr) (news : List UInt8)
    (n c : Nat) (hn : n = news.length) (hx : a.eval x = .slice (some ad) n c) (hc : ∀ (j : Nat) (hj : j < news.length), w.cell? (ad.add j) = some (.int .u8 (news[j].toNat : Int)))
    (hlen : p.length + news.length ≤ 140737488355328) (hB : B ≤ W.heap.size) (hb : Below B W w)
    (h : ∀ v' w', Own B v' (p ++ news) w' → Below B W w' → wpList P ops Q rest (a.put o.dst v') w') : wpList P ops Q (o :: rest) a w := by
  subst hn
  have hsz := hb.size
  refine wpList_append_own _ hgd s x t ho B 5 i (.int .u8 0) 1 1 ht hi hz hsize hby rfl (by decide) v p.length (byteCells p) hs hown ad news.length c (byteCells news) hx
    (by rw [byteCells_length, Nat.mul_one]) ?_ ?_ (by unfold maxLen; omega) (by omega) (by omega) ?_
  · intro j u hj
    have hjl : j < news.length := by
      by_cases hjl : j < news.length
      · exact hjl
      · rw [List.getElem?_eq_none (by rw [byteCells_length]; omega)] at hj; cases hj
    rw [hc j hjl]
    rw [← hj]
    simp [byteCells, hjl]
  · intro u hu
    simp only [byteCells, List.mem_map] at hu
    obtain ⟨b, -, rfl⟩ := hu
    rfl
  · intro v' w' h1 h2 _
    refine h v' w' ?_ ?_
    · unfold Own
      rw [byteCells_append, List.length_append]
      exact h1
    · exact hb.grown h2 (by omega) (fun k hk => (World.ownsRow.lt hown k hk).1)
namespace Pu
set_option maxRecDepth 20000 in
theorem good4 (a b c e : UInt8) : Good [a, b, c, e] ↔ val a < 64 ∧ val b < 64 ∧ val c < 64 ∧ val e < 64 := by
  constructor
  · intro h
    exact ⟨h.2.1 0 (by simp), h.2.1 1 (by simp), h.2.1 2 (by simp), h.2.1 3 (by simp)⟩
  · rintro ⟨h1, h2, h3, h4⟩
    refine ⟨by simp, ?_, fun h => by simp at h, fun h => by simp at h⟩
    intro j hj
    match j, hj with
    | 0, _ => exact h1
    | 1, _ => exact h2
    | 2, _ => exact h3
    | 3, _ => exact h4
set_option maxRecDepth 20000 in
theorem good3 (a b c : UInt8) : Good [a, b, c] ↔ val a < 64 ∧ val b < 64 ∧ val c < 64 ∧ val c % 4 = 0 := by
  have hs : shifted [a, b, c] = (((0 * 64 + val a) * 64 + val b) * 64 + val c) * 64 := rfl
  constructor
  · intro h
    have h4 := h.2.2.2 rfl
    rw [hs] at h4
    exact ⟨h.2.1 0 (by simp), h.2.1 1 (by simp), h.2.1 2 (by simp), by omega⟩
  · rintro ⟨h1, h2, h3, h4⟩
    refine ⟨by simp, ?_, fun h => by simp at h, fun _ => by rw [hs]; omega⟩
    intro j hj
    match j, hj with
    | 0, _ => exact h1
    | 1, _ => exact h2
    | 2, _ => exact h3
set_option maxRecDepth 20000 in
theorem good2 (a b : UInt8) : Good [a, b] ↔ val a < 64 ∧ val b < 64 ∧ val b % 16 = 0 := by
  have hs : shifted [a, b] = ((0 * 64 + val a) * 64 + val b) * 4096 := rfl
  constructor
  · intro h
    have h4 := h.2.2.1 rfl
    rw [hs] at h4
    exact ⟨h.2.1 0 (by simp), h.2.1 1 (by simp), by omega⟩
  · rintro ⟨h1, h2, h3⟩
    refine ⟨by simp, ?_, fun _ => by rw [hs]; omega, fun h => by simp at h⟩
    intro j hj
    match j, hj with
    | 0, _ => exact h1
    | 1, _ => exact h2
set_option maxRecDepth 20000 in
theorem shifted_lt (l : List UInt8) (hg : Good l) (hl : l.length ≤ 4) : shifted l / 65536 < 256 := by
  match l, hg, hl with
  | [a, b], hg, _ =>
    have hs : shifted [a, b] = ((0 * 64 + val a) * 64 + val b) * 4096 := rfl
    have := (good2 a b).1 hg
    rw [hs]; omega
  | [a, b, c], hg, _ =>
    have hs : shifted [a, b, c] = (((0 * 64 + val a) * 64 + val b) * 64 + val c) * 64 := rfl
    have := (good3 a b c).1 hg
    rw [hs]; omega
  | [a, b, c, e], hg, _ =>
    have hs : shifted [a, b, c, e] = ((((0 * 64 + val a) * 64 + val b) * 64 + val c) * 64 + val e) * 1 := rfl
    have := (good4 a b c e).1 hg
    rw [hs]; omega
  | [], hg, _ => exact absurd hg.1 (by simp)
  | [_], hg, _ => exact absurd hg.1 (by simp)
  | _ :: _ :: _ :: _ :: _ :: _, _, hl => simp at hl
/-- The first bytes of what a group says. -/
def out3 (l : List UInt8) : List UInt8 := [UInt8.ofNat (shifted l / 65536), UInt8.ofNat (shifted l / 256 % 256), UInt8.ofNat (shifted l % 256)]
set_option maxRecDepth 20000 in
theorem out3_cells (l : List UInt8) (hg : Good l) (hl : l.length ≤ 4) (x y z : Int) (hx : x = ((shifted l / 65536 : Nat) : Int)) (hy : y = ((shifted l / 256 % 256 : Nat) : Int)) (hz : z = ((shifted l % 256 : Nat) : Int)) :
    ∃ X Y Z : UInt8, out3 l = [X, Y, Z] ∧ x = (X.toNat : Int) ∧ y = (Y.toNat : Int) ∧ z = (Z.toNat : Int) :=
  ⟨_, _, _, rfl, by rw [ofN _ (shifted_lt l hg hl)]; exact hx, by rw [ofN _ (Nat.mod_lt _ (by omega))]; exact hy, by rw [ofN _ (Nat.mod_lt _ (by omega))]; exact hz⟩
set_option maxRecDepth 20000 in
theorem quad_good (last : Bool) (a b c e : UInt8) (m : Nat) (hm : m ≤ 4) (hl : last = false → m = 4) (h61 : ∀ (j : Nat) (hj : j < 4), m ≤ j → [a, b, c, e][j] = 61)
    (hn : last = true → ∀ (hj : m - 1 < 4), 0 < m → ¬ [a, b, c, e][m - 1] = 61) (hg : Good ([a, b, c, e].take m)) : quad last a b c e = some ((out3 ([a, b, c, e].take m)).take (m - 1)) := by
  have h2 : 2 ≤ m := by
    have := hg.1
    simp at this; omega
  have hcs : m = 2 ∨ m = 3 ∨ m = 4 := by omega
  rcases hcs with rfl | rfl | rfl
  · have hlast : last = true := by cases last; exact absurd (hl rfl) (by omega); rfl
    have e1 : c = 61 := h61 2 (by omega) (by omega)
    have e2 : e = 61 := h61 3 (by omega) (by omega)
    subst e1; subst e2; subst hlast
    obtain ⟨g1, g2, g3⟩ := (good2 a b).1 hg
    unfold quad
    rw [if_neg (by rw [val61]; omega), if_pos ⟨rfl, g1, g2, g3, rfl, rfl⟩]
    show some [_] = some [UInt8.ofNat (((0 * 64 + val a) * 64 + val b) * 4096 / 65536)]
    congr 3; omega
  · have hlast : last = true := by cases last; exact absurd (hl rfl) (by omega); rfl
    have e2 : e = 61 := h61 3 (by omega) (by omega)
    subst e2; subst hlast
    obtain ⟨g1, g2, g3, g4⟩ := (good3 a b c).1 hg
    have hc61 : ¬ c = 61 := hn rfl (by omega) (by omega)
    unfold quad
    rw [if_neg (by rw [val61]; omega), if_neg (by intro h; exact hc61 h.2.2.2.2.1), if_pos ⟨rfl, g1, g2, g3, g4, rfl⟩]
    show some [_, _] = some [UInt8.ofNat ((((0 * 64 + val a) * 64 + val b) * 64 + val c) * 64 / 65536), UInt8.ofNat ((((0 * 64 + val a) * 64 + val b) * 64 + val c) * 64 / 256 % 256)]
    congr 3 <;> first | omega | (congr 2; omega)
  · obtain ⟨g1, g2, g3, g4⟩ := (good4 a b c e).1 hg
    unfold quad
    rw [if_pos ⟨g1, g2, g3, g4⟩]
    show some [_, _, _] = some [UInt8.ofNat ((((((0 * 64 + val a) * 64 + val b) * 64 + val c) * 64 + val e) * 1) / 65536), UInt8.ofNat ((((((0 * 64 + val a) * 64 + val b) * 64 + val c) * 64 + val e) * 1) / 256 % 256), UInt8.ofNat ((((((0 * 64 + val a) * 64 + val b) * 64 + val c) * 64 + val e) * 1) % 256)]
    have x1 : (((((0 * 64 + val a) * 64 + val b) * 64 + val c) * 64 + val e) * 1) / 65536 = val a * 4 + val b / 16 := by omega
    have x2 : (((((0 * 64 + val a) * 64 + val b) * 64 + val c) * 64 + val e) * 1) / 256 % 256 = val b % 16 * 16 + val c / 4 := by omega
    have x3 : (((((0 * 64 + val a) * 64 + val b) * 64 + val c) * 64 + val e) * 1) % 256 = val c % 4 * 64 + val e := by omega
    rw [x1, x2, x3]
set_option maxRecDepth 20000 in
theorem quad_bad (last : Bool) (a b c e : UInt8) (m : Nat) (hm : m ≤ 4) (hl : last = false → m = 4) (h61 : ∀ (j : Nat) (hj : j < 4), m ≤ j → [a, b, c, e][j] = 61)
    (hn : last = true → ∀ (hj : m - 1 < 4), 0 < m → ¬ [a, b, c, e][m - 1] = 61) (hg : ¬ Good ([a, b, c, e].take m)) : quad last a b c e = none := by
  have hcs : m < 2 ∨ m = 2 ∨ m = 3 ∨ m = 4 := by omega
  have v61 := val61
  rcases hcs with h2 | rfl | rfl | rfl
  · have e0 : b = 61 := h61 1 (by omega) (by omega)
    subst e0
    unfold quad
    rw [if_neg (by omega), if_neg (by omega), if_neg (by omega)]
  · have e1 : c = 61 := h61 2 (by omega) (by omega)
    have e2 : e = 61 := h61 3 (by omega) (by omega)
    subst e1; subst e2
    have hg2 := fun h => hg ((good2 a b).2 h)
    unfold quad
    rw [if_neg (by omega), if_neg (fun h => hg2 ⟨h.2.1, h.2.2.1, h.2.2.2.1⟩), if_neg (by omega)]
  · have e2 : e = 61 := h61 3 (by omega) (by omega)
    subst e2
    have hlast : last = true := by cases last; exact absurd (hl rfl) (by omega); rfl
    have hc61 : ¬ c = 61 := hn hlast (by omega) (by omega)
    have hg2 := fun h => hg ((good3 a b c).2 h)
    unfold quad
    rw [if_neg (by omega), if_neg (by intro h; exact hc61 h.2.2.2.2.1), if_neg (fun h => hg2 ⟨h.2.1, h.2.2.1, h.2.2.2.1, h.2.2.2.2.1⟩)]
  · have hg2 := fun h => hg ((good4 a b c e).2 h)
    unfold quad
    rw [if_neg hg2]
    cases last with
    | false => rw [if_neg (by intro h; cases h.1), if_neg (by intro h; cases h.1)]
    | true =>
      have he61 : ¬ e = 61 := hn rfl (by omega) (by omega)
      rw [if_neg (by intro h; exact he61 h.2.2.2.2.2), if_neg (by intro h; exact he61 h.2.2.2.2.2)]
end Pu
set_option maxRecDepth 20000 in
theorem Own.capd {B n cap : Nat} {base : Option Addr} {p : List UInt8} {w : World} (h : Own B (.slice base n cap) p w) : p.length ≤ cap := by
  rcases h.2 with ⟨heq, h0⟩ | ⟨g, c, cur, heq, hB, -, hc, -⟩
  · cases heq; omega
  · cases heq; exact hc
set_option maxRecDepth 20000 in
theorem Own.keep {B C : Nat} {v : Value} {ps : List UInt8} {w w' : World} (h : Own B v ps w) (hC : w.heap.size ≤ C) (hb : Below C w w') : Own B v ps w' := by
  refine ⟨h.1, ?_⟩
  rcases h.2 with h | ⟨g, cap, cur, h1, h2, h3, h4⟩
  · exact .inl h
  · refine .inr ⟨g, cap, cur, h1, h2, ?_, h4⟩
    have hg : g < w.heap.size := by
      by_cases hg : g < w.heap.size
      · exact hg
      · rw [Array.getElem?_eq_none (by omega)] at h3; cases h3
    rw [hb.block g (by omega), h3]
set_option maxRecDepth 20000 in
theorem cells3 (X Y Z : UInt8) (w : World) :
    (∀ (j : Nat) (hj : j < [X].length), (w.alloc (.cells #[.int .u8 (X.toNat : Int), .int .u8 (Y.toNat : Int), .int .u8 (Z.toNat : Int)] 145)).cell? (Addr.add ⟨w.heap.size, 0, none⟩ j) = some (.int .u8 ([X][j].toNat : Int))) ∧
    (∀ (j : Nat) (hj : j < [X, Y].length), (w.alloc (.cells #[.int .u8 (X.toNat : Int), .int .u8 (Y.toNat : Int), .int .u8 (Z.toNat : Int)] 145)).cell? (Addr.add ⟨w.heap.size, 0, none⟩ j) = some (.int .u8 ([X, Y][j].toNat : Int))) ∧
    (∀ (j : Nat) (hj : j < [X, Y, Z].length), (w.alloc (.cells #[.int .u8 (X.toNat : Int), .int .u8 (Y.toNat : Int), .int .u8 (Z.toNat : Int)] 145)).cell? (Addr.add ⟨w.heap.size, 0, none⟩ j) = some (.int .u8 ([X, Y, Z][j].toNat : Int))) := by
  refine ⟨?_, ?_, ?_⟩ <;> intro j hj <;> rw [add_off]
  · match j, hj with
    | 0, _ => simp
  · match j, hj with
    | 0, _ => simp
    | 1, _ => simp
  · match j, hj with
    | 0, _ => simp
    | 1, _ => simp
    | 2, _ => simp
set_option maxRecDepth 20000 in
theorem round4i (d : List UInt8) (k : Nat) (p : List UInt8) (g : Nat) (wr : World) (h : k + 4 ≤ d.length) (hp : Pu.quads d = (Pu.quads (d.drop k)).map fun y => p ++ y)
    (hc : ∀ (j : Nat) (hj : j < d.length), wr.cell? ⟨g, j, none⟩ = some (.int .u8 (d[j].toNat : Int))) :
    ∃ a b c e : UInt8, (∀ (j : Nat) (hj : j < [a, b, c, e].length), wr.cell? ⟨g, k + j, none⟩ = some (.int .u8 ([a, b, c, e][j].toNat : Int))) ∧
      (∀ x, Pu.quad (decide (k + 4 = d.length)) a b c e = some x → Pu.quads d = (Pu.quads (d.drop (k + 4))).map fun y => (p ++ x) ++ y) ∧ (Pu.quad (decide (k + 4 = d.length)) a b c e = none → Pu.quads d = none) := by
  refine ⟨_, _, _, _, ?_, fun x => Pu.quads_some d k p x h hp, Pu.quads_none d k p h hp⟩
  intro j hj
  match j, hj with
  | 0, _ => exact hc k (by omega)
  | 1, _ => exact hc (k + 1) (by omega)
  | 2, _ => exact hc (k + 2) (by omega)
  | 3, _ => exact hc (k + 3) (by omega)
set_option maxRecDepth 20000 in
theorem notLong (s : ByteArray) (w : World) (hs : s.size ≤ 100000) : Calls Tryz.prog 35 #[.string s] w fun e w' => e = .returned (.bool false) ∧ w = w' := by
  have hc0 : decide ((100000 : Int) < (s.size : Int)) = false := by simp; omega
  go_enter Tryz.func35, Tryz.ntmps35
  go_wp2
  go_ret
  exact ⟨rfl, rfl⟩
set_option maxRecDepth 100000 in
set_option maxHeartbeats 4000000 in
theorem implUn (s : ByteArray) (w : World) (hs : s.size ≤ 100000) :
    Calls Tryz.prog 100 #[.string s] w fun e w' => e = .returned (bytesV (Pu.un64 s.data.toList)) ∧ Below w.heap.size w w' := by
  obtain ⟨i0, hi, hz0, hz1, hz2⟩ := info_parts Tryz.info5
  have hc0 : decide ((100000 : Int) < (s.size : Int)) = false := by simp; omega
  have hstrip := mkH (fun W => implStrip s W hs)
  have hu : Hid (Pu.un64 s.data.toList = if (Pu.strip s.data.toList).length % 4 = 0 then Pu.quads (Pu.strip s.data.toList) else none) := rfl
  have hdl : (Pu.strip s.data.toList).length ≤ s.size := by
    have := Pu.strip_len s.data.toList s.size
    rw [List.take_of_length_le (by simp)] at this
    exact this
  generalize Pu.strip s.data.toList = d at *
  go_enter Tryz.func100, Tryz.ntmps100
  go_wp2_with fail
  refine (notLong s _ hs).mono ?_
  rintro e w2 ⟨rfl, rfl⟩
  go_wp2_with fail
  have hroom := mkH (room w)
  obtain ⟨W, hW⟩ : ∃ W, W = w.alloc (.cells #[.bool false, .string ⟨#[]⟩] 31) := ⟨_, rfl⟩
  rw [← hW] at hroom ⊢
  have HW := mkH hW
  clear hW
  refine (hstrip.out _).mono ?_
  rintro e w1 ⟨v, rfl, hown, hb⟩
  have hWs := hroom.out.size
  have hbs := hb.size
  obtain ⟨base, cap, rfl, hd⟩ := hown.part
  have Hd := mkH hd
  have hbW := mkH hb
  clear hd hstrip
  by_cases h4 : d.length % 4 = 0
  · rw [if_pos h4] at hu
    have hmod : ((d.length : Int) % 4 != 0) = false := by rw [bne, beq_iff_eq.2 (by omega)]; rfl
    have hcap := hown.capd
    go_wp2_with fail
    go_loopw [4, 5] (fun v i wx => ∃ (k : Nat) (p : List UInt8), k ≤ d.length ∧ k % 4 = 0 ∧ i = .int .i64 k ∧ p.length ≤ k ∧ Hid (Pu.quads d = (Pu.quads (d.drop k)).map fun y => p ++ y) ∧ Own w1.heap.size v p wx ∧ Below w1.heap.size w1 wx) (fun _ i _ => d.length - (RowKit.intOf i).toNat)
    case atStart =>
      refine ⟨0, [], Nat.zero_le _, rfl, rfl, by simp, ?_, Own.nil _ _, Below.refl _ _⟩
      show Pu.quads d = (Pu.quads d).map fun y => [] ++ y
      cases Pu.quads d <;> simp
    case round =>
      obtain ⟨k, p, hk, hk4, rfl, hpl, hp, hown2, hb2⟩ := hrel
      have hbs2 := hb2.size
      have hbT : Hid (Below W.heap.size W wr) := hbW.out.trans (hb2.mono hbs)
      by_cases hlt : k < d.length
      · have hk4' : k + 4 ≤ d.length := by omega
        obtain ⟨g, rfl, hgl, hcell⟩ := Hd.out.resolve_left (by rintro rfl; simp at hlt)
        obtain ⟨a, b, c, e, hc4, hsome, hnone⟩ := round4i d k p g wr hk4' hp.out (fun j hj => (hb2.cell (p := ⟨g, j, none⟩) hgl).trans (hcell j hj))
        have hsome := mkH hsome
        have hnone := mkH hnone
        have hc4 := mkH hc4
        clear hp hcell
        by_cases hl : k + 4 = d.length
        · have fl : ((k : Int) + 4 == (d.length : Int)) = true := by rw [beq_iff_eq]; omega
          have htr := mkH (trimRight g k (cap - k) [a, b, c, e] wr (by simp) (by simp) (by simp; omega) hc4.out)
          have Hl := mkH hl
          clear hl
          go_wp2_with fail
          rw [show k + 4 - k = 4 by omega]
          refine htr.out.mono ?_
          rintro e2 w2 ⟨m, hm, rfl, h61, hn61, rfl⟩
          have hm : m ≤ 4 := hm
          have h61 := mkH h61
          have hn61 := mkH (fun (_ : decide (k + 4 = d.length) = true) => hn61)
          have HL : Hid (decide (k + 4 = d.length) = false → m = 4) := fun h => by rw [Hl.out] at h; simp at h
          clear htr
          have hlm : ([a, b, c, e].take m).length = m := by rw [List.length_take]; exact Nat.min_eq_left hm
          have hgr := mkH (implGroupU g k (cap - k) ([a, b, c, e].take m) wr (by rw [hlm]; exact hm) (by omega) (fun j hj => by
            rw [List.getElem_take]
            exact hc4.out j (by rw [hlm] at hj; simp; omega)))
          rw [hlm] at hgr
          have hgood := mkH (fun hg => hsome.out _ (Pu.quad_good _ a b c e m hm HL.out h61.out hn61.out hg))
          have hbad := mkH (fun hg => hnone.out (Pu.quad_bad _ a b c e m hm HL.out h61.out hn61.out hg))
          generalize [a, b, c, e].take m = l at *
          clear hsome hnone h61 hn61 HL hc4
          go_wp2_with fail
          refine hgr.out.mono ?_
          rintro e3 w3 ⟨⟨x, y, z, bb, rfl, hyes, hno⟩, hb3⟩
          have hbs3 := hb3.size
          have hown3 := hown2.keep (Nat.le_refl _) hb3
          have hbT3 : Hid (Below W.heap.size W w3) := hbT.out.trans (hb3.mono (by omega))
          have hb23 : Below w1.heap.size w1 w3 := hb2.trans (hb3.mono hbs2)
          clear hgr hown2 hb2 hb3 hbT
          cases bb with
          | false =>
            have Hn : Hid (Pu.un64 s.data.toList = none) := hu.out.trans (hbad.out (hno rfl))
            clear hyes hno hgood hbad
            have hlt3 : w.heap.size < w3.heap.size := by omega
            obtain ⟨q0, q1, g0, g1⟩ := hroom.out.on hbT3.out
            have hne3 : ¬ w.heap.size = w3.heap.size := by omega
            have hne4 : ¬ w3.heap.size = w.heap.size := by omega
            have hfin : Hid (Below w.heap.size w w3) := hroom.out.below.trans (hbT3.out.mono (by omega))
            go_wp2
            refine bodyPost_ret (v := bytesV none) (by simp [results, Tryz.results100, go_sem, bytesV, q0, q1, hlt3]) rfl ⟨by rw [Hn.out], ?_⟩
            exact ((hfin.out.setCell (p := ⟨w.heap.size, 0, none⟩) (Nat.le_refl _) _).setCell (p := ⟨w.heap.size, 1, none⟩) (Nat.le_refl _) _).alloc (by simp; omega) _
          | true =>
            obtain ⟨hg, hx, hy, hz⟩ := hyes rfl
            have h2m : 2 ≤ m := by rw [← hlm]; exact hg.1
            obtain ⟨X, Y, Z, ho, rfl, rfl, rfl⟩ := Pu.out3_cells l hg (by rw [hlm]; exact hm) x y z hx hy hz
            have hq := mkH (hgood.out hg)
            rw [ho] at hq
            clear hyes hno hgood hbad
            have hown4 : Own w1.heap.size u4 p (w3.alloc (.cells #[.int .u8 (X.toNat : Int), .int .u8 (Y.toNat : Int), .int .u8 (Z.toNat : Int)] 145)) := World.ownsRow.alloc hown3 _
            have hb4 := hb23.alloc (by omega) (.cells #[.int .u8 (X.toNat : Int), .int .u8 (Y.toNat : Int), .int .u8 (Z.toNat : Int)] 145)
            obtain ⟨hcl2, hcl3, hcl4⟩ := cells3 X Y Z w3
            have hcs : m = 2 ∨ m = 3 ∨ m = 4 := by omega
            clear hlm h2m hb23 hown3 hx hy hz
            rcases hcs with rfl | rfl | rfl
            · go_wp2_with (at_builtin; go_must (refine wp_appc (W := w1) rfl _ _ 35 rfl i0 Tryz.underlying35 hi hz0 hz1 hz2 w1.heap.size u4 p rfl hown4 ⟨w3.heap.size, 0, none⟩ [X] 1 _ rfl rfl hcl2 (by simp; omega) (Nat.le_refl _) hb4 ?_; intro v5 w5 hown5 hb5))
              go_roundw
              case rel => exact ⟨k + 4, _, by omega, by omega, by go_num, by simp; omega, hq.out, hown5, hb5⟩
              case measure => simp [RowKit.intOf]; omega
            · go_wp2_with (at_builtin; go_must (refine wp_appc (W := w1) rfl _ _ 35 rfl i0 Tryz.underlying35 hi hz0 hz1 hz2 w1.heap.size u4 p rfl hown4 ⟨w3.heap.size, 0, none⟩ [X, Y] 2 _ rfl rfl hcl3 (by simp; omega) (Nat.le_refl _) hb4 ?_; intro v5 w5 hown5 hb5))
              go_roundw
              case rel => exact ⟨k + 4, _, by omega, by omega, by go_num, by simp; omega, hq.out, hown5, hb5⟩
              case measure => simp [RowKit.intOf]; omega
            · go_wp2_with (at_builtin; go_must (refine wp_appc (W := w1) rfl _ _ 35 rfl i0 Tryz.underlying35 hi hz0 hz1 hz2 w1.heap.size u4 p rfl hown4 ⟨w3.heap.size, 0, none⟩ [X, Y, Z] 3 _ rfl rfl hcl4 (by simp; omega) (Nat.le_refl _) hb4 ?_; intro v5 w5 hown5 hb5))
              go_roundw
              case rel => exact ⟨k + 4, _, by omega, by omega, by go_num, by simp; omega, hq.out, hown5, hb5⟩
              case measure => simp [RowKit.intOf]; omega
        · have fl : ((k : Int) + 4 == (d.length : Int)) = false := by rw [beq_eq_false_iff_ne]; omega
          have HL : Hid (decide (k + 4 = d.length) = false → 4 = 4) := fun _ => rfl
          have hm : 4 ≤ 4 := Nat.le_refl 4
          have h61 : Hid (∀ (j : Nat) (hj : j < 4), 4 ≤ j → [a, b, c, e][j] = 61) := fun j hj h => by omega
          have hn61 : Hid (decide (k + 4 = d.length) = true → ∀ (hj : 4 - 1 < 4), 0 < 4 → ¬ [a, b, c, e][4 - 1] = 61) := fun h => absurd (of_decide_eq_true h) hl
          have hlm : ([a, b, c, e].take 4).length = 4 := by rw [List.length_take]; exact Nat.min_eq_left hm
          have hgr := mkH (implGroupU g k (cap - k) ([a, b, c, e].take 4) wr (by rw [hlm]; exact hm) (by omega) (fun j hj => by
            rw [List.getElem_take]
            exact hc4.out j (by rw [hlm] at hj; simp; omega)))
          rw [hlm] at hgr
          have hgood := mkH (fun hg => hsome.out _ (Pu.quad_good _ a b c e 4 hm HL.out h61.out hn61.out hg))
          have hbad := mkH (fun hg => hnone.out (Pu.quad_bad _ a b c e 4 hm HL.out h61.out hn61.out hg))
          generalize [a, b, c, e].take 4 = l at *
          clear hsome hnone h61 hn61 HL hc4
          go_wp2_with fail
          rw [show k + 4 - k = 4 by omega]
          refine hgr.out.mono ?_
          rintro e3 w3 ⟨⟨x, y, z, bb, rfl, hyes, hno⟩, hb3⟩
          have hbs3 := hb3.size
          have hown3 := hown2.keep (Nat.le_refl _) hb3
          have hbT3 : Hid (Below W.heap.size W w3) := hbT.out.trans (hb3.mono (by omega))
          have hb23 : Below w1.heap.size w1 w3 := hb2.trans (hb3.mono hbs2)
          clear hgr hown2 hb2 hb3 hbT
          cases bb with
          | false =>
            have Hn : Hid (Pu.un64 s.data.toList = none) := hu.out.trans (hbad.out (hno rfl))
            clear hyes hno hgood hbad
            have hlt3 : w.heap.size < w3.heap.size := by omega
            obtain ⟨q0, q1, g0, g1⟩ := hroom.out.on hbT3.out
            have hne3 : ¬ w.heap.size = w3.heap.size := by omega
            have hne4 : ¬ w3.heap.size = w.heap.size := by omega
            have hfin : Hid (Below w.heap.size w w3) := hroom.out.below.trans (hbT3.out.mono (by omega))
            go_wp2
            refine bodyPost_ret (v := bytesV none) (by simp [results, Tryz.results100, go_sem, bytesV, q0, q1, hlt3]) rfl ⟨by rw [Hn.out], ?_⟩
            exact ((hfin.out.setCell (p := ⟨w.heap.size, 0, none⟩) (Nat.le_refl _) _).setCell (p := ⟨w.heap.size, 1, none⟩) (Nat.le_refl _) _).alloc (by simp; omega) _
          | true =>
            obtain ⟨hg, hx, hy, hz⟩ := hyes rfl
            have h2m : 2 ≤ 4 := by rw [← hlm]; exact hg.1
            obtain ⟨X, Y, Z, ho, rfl, rfl, rfl⟩ := Pu.out3_cells l hg (by rw [hlm]; exact hm) x y z hx hy hz
            have hq := mkH (hgood.out hg)
            rw [ho] at hq
            clear hyes hno hgood hbad
            have hown4 : Own w1.heap.size u4 p (w3.alloc (.cells #[.int .u8 (X.toNat : Int), .int .u8 (Y.toNat : Int), .int .u8 (Z.toNat : Int)] 145)) := World.ownsRow.alloc hown3 _
            have hb4 := hb23.alloc (by omega) (.cells #[.int .u8 (X.toNat : Int), .int .u8 (Y.toNat : Int), .int .u8 (Z.toNat : Int)] 145)
            obtain ⟨hcl2, hcl3, hcl4⟩ := cells3 X Y Z w3
            clear hlm h2m hb23 hown3 hx hy hz
            go_wp2_with (at_builtin; go_must (refine wp_appc (W := w1) rfl _ _ 35 rfl i0 Tryz.underlying35 hi hz0 hz1 hz2 w1.heap.size u4 p rfl hown4 ⟨w3.heap.size, 0, none⟩ [X, Y, Z] 3 _ rfl rfl hcl4 (by simp; omega) (Nat.le_refl _) hb4 ?_; intro v5 w5 hown5 hb5))
            go_roundw
            case rel => exact ⟨k + 4, _, by omega, by omega, by go_num, by simp; omega, hq.out, hown5, hb5⟩
            case measure => simp [RowKit.intOf]; omega
      · obtain ⟨q0, q1, g0, g1⟩ := hroom.out.on hbT.out
        have Hn : Hid (Pu.un64 s.data.toList = some p) := by
          rw [hu.out, hp.out, List.drop_eq_nil_of_le (by omega), Pu.quads]
          simp [Hid]
        have hbk := hown2.back (P := Tryz.prog) 35 9 Tryz.underlying35 Tryz.underlying5 Tryz.underlying9
        clear hp
        go_wp2
        refine bodyPost_ret (v := bytesV (some p)) (by simp [results, Tryz.results100, go_sem, bytesV, q0, q1]) rfl ⟨by rw [Hn.out], ?_⟩
        have hfin : Below w.heap.size w wr := hroom.out.below.trans (hbT.out.mono (by omega))
        exact ((hfin.setCell (p := ⟨w.heap.size, 0, none⟩) (Nat.le_refl _) _).setCell (p := ⟨w.heap.size, 1, none⟩) (Nat.le_refl _) _)
  · rw [if_neg h4] at hu
    obtain ⟨q0, q1, g0, g1⟩ := hroom.out.on hb
    have hmod : ((d.length : Int) % 4 != 0) = true := by rw [bne, beq_eq_false_iff_ne.2 (by omega)]; rfl
    go_wp2
    refine bodyPost_ret (v := bytesV none) (by simp [results, Tryz.results100, go_sem, bytesV, q0, q1]) rfl ⟨by rw [hu.out], ?_⟩
    have hfin : Below w.heap.size w w1 := hroom.out.below.trans (hb.mono (by omega))
    exact ((hfin.setCell (p := ⟨w.heap.size, 0, none⟩) (Nat.le_refl _) _).setCell (p := ⟨w.heap.size, 1, none⟩) (Nat.le_refl _) _)
end Go.Proofs.YtajkahpkbeobaaaGreatDoor
namespace Go.Proofs.YtajkahpkbeobaaaGreatDoor
open Go.RowKit Go.Lib
def Pw.data (l t : List UInt8) : Option (List UInt8) := if l = [66] ∨ l = [98] then Pu.un64 t else if l = [81] ∨ l = [113] then Pw.wq [] t else none
set_option maxRecDepth 20000 in
theorem retWd {w wr : World} {tmps : Array Value} {x : Option (List UInt8)} (cs : Array Value) (hp : tmps.getD 4 undef = .pointer (some ⟨w.heap.size, 0, none⟩)) {old : Array Value} (hres : wr.heap[w.heap.size]? = some (.cells old 31 (0, 0))) (hb : Below w.heap.size w wr) (h2 : cs.size = 2) (ho : bytesV x = .agg cs) :
    bodyPost Tryz.prog Tryz.f70 (fun e w' => e = .returned (bytesV x) ∧ Below w.heap.size w w') Exit.ret { tmps := tmps, defers := [] } (wr.setRow w.heap.size cs) := by
  refine bodyPost_ret (v := .agg cs) (results_cell_row Tryz.results70 _ _ w.heap.size 31 _ (0, 0) _ hp (setRow_heap _ _ _ _ _ _ hres) Tryz.underlying31 rfl ?_) rfl ⟨by rw [ho], hb.grown (grown_setRow _ _ _) hb.size (fun j hj => by cases hj; exact Nat.le_refl _)⟩
  rw [h2]
  kernel_rfl
set_option maxRecDepth 20000 in
set_option maxHeartbeats 4000000 in
theorem implWordData (l t : ByteArray) (w : World) (ht : t.size ≤ 100000) (hE : ErrCell w) (m : Int) (hm : w.cell? ⟨1, 0, none⟩ = some (.int .i64 m)) :
    Calls Tryz.prog 70 #[.string l, .string t] w fun e w' => e = .returned (bytesV (Pw.data l.data.toList t.data.toList)) ∧ Below w.heap.size w w' := by
  have hml : 1 < w.heap.size := World.block_lt_of_cell? _ _ hm
  obtain ⟨W, hW⟩ : ∃ W, W = w.alloc (.cells #[.bool false, .string ⟨#[]⟩] 31) := ⟨_, rfl⟩
  have hN0 : W.heap[w.heap.size]? = some (.cells #[.bool false, .string ⟨#[]⟩] 31 (0, 0)) := by rw [hW]; exact heap_alloc_at _ _
  have hB0 : Below w.heap.size w W := by rw [hW]; exact (Below.refl _ _).alloc (Nat.le_refl _) _
  have hz0 : W.heap.size = w.heap.size + 1 := by rw [hW, World.size_alloc]
  have hmW := (hB0.cell (p := ⟨1, 0, none⟩) hml).trans hm
  have hEW := hE.below hB0
  have HW := mkH hW
  have HN := mkH hN0
  have HB := mkH hB0
  clear hW hN0 hB0 hm hE
  have hl : l.data.toList = l.toList := (ByteArray.toList_eq _).symm
  rw [hl]
  unfold Pw.data
  by_cases hb : l.toList = [66] ∨ l.toList = [98]
  · rw [if_pos hb]
    have cU := mkH (implUn t W ht)
    have hq : (l.toList == [66]) = true ∨ ((l.toList == [66]) = false ∧ (l.toList == [98]) = true) := by
      rcases hb with h | h
      · exact .inl (by rw [h]; rfl)
      · exact .inr ⟨by rw [h]; decide, by rw [h]; rfl⟩
    generalize Pu.un64 t.data.toList = x at *
    clear hb hmW hEW
    rcases hq with q1 | ⟨q1, q2⟩
    all_goals
      go_enter Tryz.func70, Tryz.ntmps70
      go_wp2_with fail
      rw [← HW.out]
      refine cU.out.mono ?_
      rintro e w1 ⟨rfl, hb1⟩
      have hr1 := (hb1.block w.heap.size (by omega)).trans HN.out
      have hw1 := mkH (HB.out.trans (hb1.mono (by omega)))
      clear cU hb1
      cases x with
      | none =>
        unfold bytesV
        go_wp2_with (first | (refine wpL_store_row rfl 31 _ _ rfl w.heap.size #[.bool false, .string ⟨#[]⟩] rfl rfl 31 _ hr1 (by kernel_rfl) rfl (by simp [Value.oneCell']) ?_) | go_in)
        exact retWd (x := none) _ rfl hr1 hw1.out rfl rfl
      | some y =>
        unfold bytesV
        go_wp2_with (first | (refine wpL_store_row rfl 31 _ _ rfl w.heap.size #[.bool true, .string ⟨y.toArray⟩] rfl rfl 31 _ hr1 (by kernel_rfl) rfl (by simp [Value.oneCell']) ?_) | go_in)
        exact retWd (x := some y) _ rfl hr1 hw1.out rfl rfl
  · rw [if_neg hb]
    have b1 : (l.toList == [66]) = false := by rw [beq_eq_false_iff_ne]; exact fun h => hb (.inl h)
    have b2 : (l.toList == [98]) = false := by rw [beq_eq_false_iff_ne]; exact fun h => hb (.inr h)
    by_cases hc : l.toList = [81] ∨ l.toList = [113]
    · rw [if_pos hc]
      have hq : (l.toList == [81]) = true ∨ ((l.toList == [81]) = false ∧ (l.toList == [113]) = true) := by
        rcases hc with h | h
        · exact .inl (by rw [h]; rfl)
        · exact .inr ⟨by rw [h]; decide, by rw [h]; rfl⟩
      have hcnt : countB t ⟨#[95]⟩ ≤ 1100000 := by
        unfold countB
        have := count_le t.data.toList [95]
        have hl2 : t.data.toList.length = t.size := by simp
        show count t.data.toList [95] ≤ _
        omega
      have hrl : replaceAll t.data.toList [95] [32] = t.data.toList.map Pw.und := Pw.replace_und _
      have cR := mkH (Tryz.strings_ReplaceAll t ⟨#[95]⟩ ⟨#[32]⟩ m W (by omega) hmW (by decide) (by show t.size + countB t ⟨#[95]⟩ * 1 ≤ _; omega))
      rw [show (⟨#[95]⟩ : ByteArray).data.toList = [95] from rfl, show (⟨#[32]⟩ : ByteArray).data.toList = [32] from rfl, hrl] at cR
      have HEW := mkH hEW
      have hsz : (⟨(t.data.toList.map Pw.und).toArray⟩ : ByteArray).size ≤ 1100000 := by
        show (t.data.toList.map Pw.und).toArray.size ≤ _
        simp
        omega
      have hqb : Pl.qb [] (⟨(t.data.toList.map Pw.und).toArray⟩ : ByteArray).data.toList = Pw.wq [] t.data.toList := by
        rw [← Pw.qb_und]
      have cQ := mkH (fun V (hV : Below W.heap.size W V) => implQuotedBytes ⟨(t.data.toList.map Pw.und).toArray⟩ V hsz (HEW.out.below hV))
      rw [hqb] at cQ
      generalize (⟨(t.data.toList.map Pw.und).toArray⟩ : ByteArray) = T at *
      generalize Pw.wq [] t.data.toList = x at *
      clear hb hc hmW hEW hrl hcnt hqb
      rcases hq with q1 | ⟨q1, q2⟩
      all_goals
        go_enter Tryz.func70, Tryz.ntmps70
        go_wp2_with fail
        rw [← HW.out]
        refine cR.out.mono ?_
        rintro e w1 ⟨rfl, hb1⟩
        have Hb1 := mkH hb1
        clear cR hb1
        go_wp2_with fail
        refine (cQ.out w1 Hb1.out).mono ?_
        rintro e w2 ⟨hQ, hb2⟩
        have hbb := Hb1.out.trans (hb2.mono Hb1.out.size)
        have hr1 := (hbb.block w.heap.size (by omega)).trans HN.out
        have hw1 := mkH (HB.out.trans (hbb.mono (by omega)))
        clear cQ hb2 hbb
        cases x with
        | none =>
          unfold QbOut at hQ
          subst hQ
          have hcv := (Own.nil w.heap.size w2).back (P := Tryz.prog) 35 9 Tryz.underlying35 Tryz.underlying5 Tryz.underlying9
          go_wp2_with (first | (refine wpL_store_row rfl 31 _ _ rfl w.heap.size #[.bool false, .string ⟨#[]⟩] rfl rfl 31 _ hr1 (by kernel_rfl) rfl (by simp [Value.oneCell']) ?_) | go_in)
          exact retWd (x := none) _ rfl hr1 hw1.out rfl rfl
        | some y =>
          obtain ⟨v, rfl, hO⟩ := hQ
          have hcv := hO.back (P := Tryz.prog) 35 9 Tryz.underlying35 Tryz.underlying5 Tryz.underlying9
          go_wp2_with (first | (refine wpL_store_row rfl 31 _ _ rfl w.heap.size #[.bool true, .string ⟨y.toArray⟩] rfl rfl 31 _ hr1 (by kernel_rfl) rfl (by simp [Value.oneCell']) ?_) | go_in)
          exact retWd (x := some y) _ rfl hr1 hw1.out rfl rfl
    · rw [if_neg hc]
      have b3 : (l.toList == [81]) = false := by rw [beq_eq_false_iff_ne]; exact fun h => hc (.inl h)
      have b4 : (l.toList == [113]) = false := by rw [beq_eq_false_iff_ne]; exact fun h => hc (.inr h)
      have hr1 := HN.out
      rw [HW.out] at hr1
      have hw1 := mkH HB.out
      rw [HW.out] at hw1
      clear hb hc hmW hEW
      go_enter Tryz.func70, Tryz.ntmps70
      go_wp2_with (first | (refine wpL_store_row rfl 31 _ _ rfl w.heap.size #[.bool false, .string ⟨#[]⟩] rfl rfl 31 _ hr1 (by kernel_rfl) rfl (by simp [Value.oneCell']) ?_) | go_in)
      exact retWd (x := none) _ rfl hr1 hw1.out rfl rfl
end Go.Proofs.YtajkahpkbeobaaaGreatDoor
namespace Go.Proofs.YtajkahpkbeobaaaGreatDoor
open Go.Maps
namespace Pl
/-- The point of a byte, where that is not its number. -/
def nineOf (x : Int) : Option Int :=
  if x = 164 then some 8364 else if x = 166 then some 352 else if x = 168 then some 353 else if x = 180 then some 381 else
  if x = 184 then some 382 else if x = 188 then some 338 else if x = 189 then some 339 else if x = 190 then some 376 else none
/-- The byte of such a point. -/
def unNine (p : Int) : Option Int :=
  if p = 8364 then some 164 else if p = 352 then some 166 else if p = 353 then some 168 else if p = 381 then some 180 else
  if p = 382 then some 184 else if p = 338 then some 188 else if p = 339 then some 189 else if p = 376 then some 190 else none
set_option maxRecDepth 20000 in
theorem nine_un {x p : Int} (h : nineOf x = some p) : unNine p = some x := by
  unfold nineOf at h
  repeat (split at h; (· subst_vars; cases h; rfl))
  cases h
set_option maxRecDepth 20000 in
theorem un_nine {x p : Int} (h : unNine p = some x) : nineOf x = some p := by
  unfold unNine at h
  repeat (split at h; (· subst_vars; cases h; rfl))
  cases h
def nineD : DataW Unit :=
  ((((((((DataW.map [] : DataW Unit).put (.int .u8 164) (.lit (.int .i64 8364))).put (.int .u8 166) (.lit (.int .i64 352))).put (.int .u8 168) (.lit (.int .i64 353))).put (.int .u8 180) (.lit (.int .i64 381))).put
    (.int .u8 184) (.lit (.int .i64 382))).put (.int .u8 188) (.lit (.int .i64 338))).put (.int .u8 189) (.lit (.int .i64 339))).put (.int .u8 190) (.lit (.int .i64 376))
set_option maxRecDepth 20000 in
theorem ne_key {q : IntKind} {a b : Int} (h : a ≠ b) : Lit.int q a ≠ Lit.int q b := fun e => h (by cases e; rfl)
set_option maxRecDepth 20000 in
theorem nineD_at (x : Int) (z : DataW Unit) : nineD.atKey (.int .u8 x) z = match nineOf x with | some p => .lit (.int .i64 p) | none => z := by
  by_cases h0 : x = 164
  · subst h0; rfl
  by_cases h1 : x = 166
  · subst h1; rfl
  by_cases h2 : x = 168
  · subst h2; rfl
  by_cases h3 : x = 180
  · subst h3; rfl
  by_cases h4 : x = 184
  · subst h4; rfl
  by_cases h5 : x = 188
  · subst h5; rfl
  by_cases h6 : x = 189
  · subst h6; rfl
  by_cases h7 : x = 190
  · subst h7; rfl
  have e : nineOf x = none := by simp [nineOf, h0, h1, h2, h3, h4, h5, h6, h7]
  rw [e]
  unfold nineD
  rw [atKey_put_other (ne_key h7), atKey_put_other (ne_key h6), atKey_put_other (ne_key h5), atKey_put_other (ne_key h4), atKey_put_other (ne_key h3), atKey_put_other (ne_key h2), atKey_put_other (ne_key h1), atKey_put_other (ne_key h0)]
  rfl
set_option maxRecDepth 20000 in
theorem nineD_has (x : Int) : Maps.has nineD (.int .u8 x) = (nineOf x).isSome := by
  by_cases h0 : x = 164
  · subst h0; rfl
  by_cases h1 : x = 166
  · subst h1; rfl
  by_cases h2 : x = 168
  · subst h2; rfl
  by_cases h3 : x = 180
  · subst h3; rfl
  by_cases h4 : x = 184
  · subst h4; rfl
  by_cases h5 : x = 188
  · subst h5; rfl
  by_cases h6 : x = 189
  · subst h6; rfl
  by_cases h7 : x = 190
  · subst h7; rfl
  have e : nineOf x = none := by simp [nineOf, h0, h1, h2, h3, h4, h5, h6, h7]
  rw [e]
  unfold nineD
  rw [has_put_other (ne_key h7), has_put_other (ne_key h6), has_put_other (ne_key h5), has_put_other (ne_key h4), has_put_other (ne_key h3), has_put_other (ne_key h2), has_put_other (ne_key h1), has_put_other (ne_key h0)]
  rfl
set_option maxRecDepth 20000 in
theorem nineD_entry {x c : Int} (h : ∀ z, nineD.atKey (.int .u8 x) z = .lit (.int .i64 c)) : nineOf x = some c := by
  have h1 := h .nil
  rw [nineD_at] at h1
  cases e : nineOf x with
  | none => rw [e] at h1; cases h1
  | some p => rw [e] at h1; cases h1; rfl
/-- The other map holds just the entries that are no longer to come. -/
structure Inv (D : DataW Unit) (left : Lit → Bool) : Prop where
  map : IsMap D
  has : ∀ p b, unNine p = some b → Maps.has D (.int .i64 p) = !left (.int .u8 b)
  no : ∀ p, unNine p = none → Maps.has D (.int .i64 p) = false
  elem : ∀ p b z, unNine p = some b → left (.int .u8 b) = false → D.atKey (.int .i64 p) z = .lit (.int .u8 b)
set_option maxRecDepth 20000 in
theorem inv_start : Inv (.map []) (Maps.has nineD) where
  map := ⟨[], rfl⟩
  has := fun p b h => by rw [nineD_has, un_nine h]; rfl
  no := fun p h => rfl
  elem := fun p b z h h1 => by rw [nineD_has, un_nine h] at h1; cases h1
set_option maxRecDepth 20000 in
theorem inv_step {D : DataW Unit} {left : Lit → Bool} (h : Inv D left) {x c : Int} (hx : nineOf x = some c) : Inv (D.put (.int .i64 c) (.lit (.int .u8 x))) (fun z => left z && !z.sameKey (.int .u8 x)) where
  map := by
    obtain ⟨es, rfl⟩ := h.map
    exact ⟨_, rfl⟩
  has := fun p b hp => by
    by_cases e : p = c
    · subst e
      rw [nine_un hx] at hp
      cases hp
      rw [has_put_same (k := .int .i64 p) h.map trivial, show (Lit.int .u8 x).sameKey (Lit.int .u8 x) = true from WideAt.sameKey_self trivial]
      simp
    · rw [has_put_other (ne_key e), h.has p b hp]
      have hb : b ≠ x := fun e2 => e (by subst e2; have := un_nine hp; rw [hx] at this; cases this; rfl)
      have : (Lit.int .u8 b).sameKey (Lit.int .u8 x) = false := by simp [Lit.sameKey, hb]
      simp [this]
  no := fun p hp => by
    have e : p ≠ c := fun e => by subst e; rw [nine_un hx] at hp; cases hp
    rw [has_put_other (ne_key e), h.no p hp]
  elem := fun p b z hp hl => by
    by_cases e : p = c
    · subst e
      rw [nine_un hx] at hp
      cases hp
      rw [atKey_put_same (k := .int .i64 p) h.map trivial]
    · rw [atKey_put_other (ne_key e)]
      have hb : b ≠ x := fun e2 => e (by subst e2; have := un_nine hp; rw [hx] at this; cases this; rfl)
      have hs : (Lit.int .u8 b).sameKey (Lit.int .u8 x) = false := by simp [Lit.sameKey, hb]
      exact h.elem p b z hp (by simpa [hs] using hl)
/-- Both maps as they stand at the end. -/
structure Inv0 (D : DataW Unit) : Prop where
  has : ∀ p, Maps.has D (.int .i64 p) = (unNine p).isSome
  elem : ∀ p b z, unNine p = some b → D.atKey (.int .i64 p) z = .lit (.int .u8 b)
set_option maxRecDepth 20000 in
theorem inv_end {D : DataW Unit} {left : Lit → Bool} (h : Inv D left) (hl : ∀ k, left k = false) : Inv0 D where
  has := fun p => by
    cases e : unNine p with
    | none => rw [h.no p e]; rfl
    | some b => rw [h.has p b e, hl]; rfl
  elem := fun p b z hp => h.elem p b z hp (hl _)
end Pl
end Go.Proofs.YtajkahpkbeobaaaGreatDoor
