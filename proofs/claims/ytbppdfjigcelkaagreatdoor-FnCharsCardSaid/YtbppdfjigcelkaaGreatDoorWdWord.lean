
/- The walk of UnBase64. -/

/- A word's bytes by the letter that tells its coding: the program's side. -/

/- Decode, the program's side: every set. -/

/- An encoded word, plain: both sides take the same. -/
import Derived.Test.YtbppdfjigcelkaaGreatDoorU64Digits
import Derived.Test.YtbppdfjigcelkaaGreatDoorCsName
import Derived.Test.YtbppdfjigcelkaaGreatDoorNinePlain
import Derived.Test.YtbppdfjigcelkaaGreatDoorWdSame
import Derived.Test.YtbppdfjigcelkaaGreatDoorU64Spec
namespace Go.Proofs.YtbppdfjigcelkaaGreatDoor
open Go.RowKit Go.Lib
set_option maxRecDepth 20000 in
/-- An append of bytes that lie somewhere. -/
theorem wp_appc {P : Program} {W w : World} {ops : Array Oper} {rest : List Oper} {o : Oper} {a : Act} {Q : Exit → Act → World → Prop} (hgd : o.guard = none) (s x : Operand) (t : TypeId)
    (ho : o.op = .call { callee := .builtin .append, args := #[s, x], argTypes := #[t, t] })
    (i : TypeInfo) (ht : P.underlying t = some (.slice 5)) (hi : P.info? 5 = some i) (hz : i.zero = some (.int .u8 0)) (hsize : i.size = 1) (hby : i.bytes = 1)
    (B : Nat) (v : Value) (p : List UInt8) (hs : a.eval s = v) (hown : Own B v p w) (ad : Addr) (news : List UInt8)
    (n c : Nat) (hn : n = news.length) (hx : a.eval x = .slice (some ad) n c) (hc : ∀ (j : Nat) (hj : j < news.length), w.cell? (ad.add j) = some (.int .u8 (news[j].toNat : Int)))
    (hlen : p.length + news.length ≤ 140737488355328) (hB : B ≤ W.heap.size) (hb : Below B W w)
    (h : ∀ v' w', Own B v' (p ++ news) w' → Below B W w' → wpList P ops Q rest (a.put o.dst v') w') : wpList P ops Q (o :: rest) a w := by
  subst hn
  have hsz := hb.size
  refine wpList_append_own _ hgd s x t ho B 5 i (.int .u8 0) 1 1 ht hi hz hsize hby rfl (by decide) v p.length (byteCells p) hs hown ad news.length c (byteCells news) hx
    (by rw [byteCells_length, Nat.mul_one]) ?_ ?_ (by unfold maxLen; omega) (by omega) (by omega) ?_
  · intro j u hj
    have hjl : j < news.length := by
      by_cases hjl : j < news.length
      · exact hjl
      · rw [List.getElem?_eq_none (by rw [byteCells_length]; omega)] at hj; cases hj
    rw [hc j hjl]
    rw [← hj]
    simp [byteCells, hjl]
  · intro u hu
    simp only [byteCells, List.mem_map] at hu
    obtain ⟨b, -, rfl⟩ := hu
    rfl
  · intro v' w' h1 h2 _
    refine h v' w' ?_ ?_
    · unfold Own
      rw [byteCells_append, List.length_append]
      exact h1
    · exact hb.grown h2 (by omega) (fun k hk => (World.ownsRow.lt hown k hk).1)
namespace Pu
set_option maxRecDepth 20000 in
theorem good4 (a b c e : UInt8) : Good [a, b, c, e] ↔ val a < 64 ∧ val b < 64 ∧ val c < 64 ∧ val e < 64 := by
  constructor
  · intro h
    exact ⟨h.2.1 0 (by simp), h.2.1 1 (by simp), h.2.1 2 (by simp), h.2.1 3 (by simp)⟩
  · rintro ⟨h1, h2, h3, h4⟩
    refine ⟨by simp, ?_, fun h => by simp at h, fun h => by simp at h⟩
    intro j hj
    match j, hj with
    | 0, _ => exact h1
    | 1, _ => exact h2
    | 2, _ => exact h3
    | 3, _ => exact h4
set_option maxRecDepth 20000 in
theorem good3 (a b c : UInt8) : Good [a, b, c] ↔ val a < 64 ∧ val b < 64 ∧ val c < 64 ∧ val c % 4 = 0 := by
  have hs : shifted [a, b, c] = (((0 * 64 + val a) * 64 + val b) * 64 + val c) * 64 := rfl
  constructor
  · intro h
    have h4 := h.2.2.2 rfl
    rw [hs] at h4
    exact ⟨h.2.1 0 (by simp), h.2.1 1 (by simp), h.2.1 2 (by simp), by omega⟩
  · rintro ⟨h1, h2, h3, h4⟩
    refine ⟨by simp, ?_, fun h => by simp at h, fun _ => by rw [hs]; omega⟩
    intro j hj
    match j, hj with
    | 0, _ => exact h1
    | 1, _ => exact h2
    | 2, _ => exact h3
set_option maxRecDepth 20000 in
theorem good2 (a b : UInt8) : Good [a, b] ↔ val a < 64 ∧ val b < 64 ∧ val b % 16 = 0 := by
  have hs : shifted [a, b] = ((0 * 64 + val a) * 64 + val b) * 4096 := rfl
  constructor
  · intro h
    have h4 := h.2.2.1 rfl
    rw [hs] at h4
    exact ⟨h.2.1 0 (by simp), h.2.1 1 (by simp), by omega⟩
  · rintro ⟨h1, h2, h3⟩
    refine ⟨by simp, ?_, fun _ => by rw [hs]; omega, fun h => by simp at h⟩
    intro j hj
    match j, hj with
    | 0, _ => exact h1
    | 1, _ => exact h2
set_option maxRecDepth 20000 in
theorem shifted_lt (l : List UInt8) (hg : Good l) (hl : l.length ≤ 4) : shifted l / 65536 < 256 := by
  match l, hg, hl with
  | [a, b], hg, _ =>
    have hs : shifted [a, b] = ((0 * 64 + val a) * 64 + val b) * 4096 := rfl
    have := (good2 a b).1 hg
    rw [hs]; omega
  | [a, b, c], hg, _ =>
    have hs : shifted [a, b, c] = (((0 * 64 + val a) * 64 + val b) * 64 + val c) * 64 := rfl
    have := (good3 a b c).1 hg
    rw [hs]; omega
  | [a, b, c, e], hg, _ =>
    have hs : shifted [a, b, c, e] = ((((0 * 64 + val a) * 64 + val b) * 64 + val c) * 64 + val e) * 1 := rfl
    have := (good4 a b c e).1 hg
    rw [hs]; omega
  | [], hg, _ => exact absurd hg.1 (by simp)
  | [_], hg, _ => exact absurd hg.1 (by simp)
  | _ :: _ :: _ :: _ :: _ :: _, _, hl => simp at hl
/-- The first bytes of what a group says. -/
def out3 (l : List UInt8) : List UInt8 := [UInt8.ofNat (shifted l / 65536), UInt8.ofNat (shifted l / 256 % 256), UInt8.ofNat (shifted l % 256)]
set_option maxRecDepth 20000 in
theorem out3_cells (l : List UInt8) (hg : Good l) (hl : l.length ≤ 4) (x y z : Int) (hx : x = ((shifted l / 65536 : Nat) : Int)) (hy : y = ((shifted l / 256 % 256 : Nat) : Int)) (hz : z = ((shifted l % 256 : Nat) : Int)) :
    ∃ X Y Z : UInt8, out3 l = [X, Y, Z] ∧ x = (X.toNat : Int) ∧ y = (Y.toNat : Int) ∧ z = (Z.toNat : Int) :=
  ⟨_, _, _, rfl, by rw [ofN _ (shifted_lt l hg hl)]; exact hx, by rw [ofN _ (Nat.mod_lt _ (by omega))]; exact hy, by rw [ofN _ (Nat.mod_lt _ (by omega))]; exact hz⟩
set_option maxRecDepth 20000 in
theorem quad_good (last : Bool) (a b c e : UInt8) (m : Nat) (hm : m ≤ 4) (hl : last = false → m = 4) (h61 : ∀ (j : Nat) (hj : j < 4), m ≤ j → [a, b, c, e][j] = 61)
    (hn : last = true → ∀ (hj : m - 1 < 4), 0 < m → ¬ [a, b, c, e][m - 1] = 61) (hg : Good ([a, b, c, e].take m)) : quad last a b c e = some ((out3 ([a, b, c, e].take m)).take (m - 1)) := by
  have h2 : 2 ≤ m := by
    have := hg.1
    simp at this; omega
  have hcs : m = 2 ∨ m = 3 ∨ m = 4 := by omega
  rcases hcs with rfl | rfl | rfl
  · have hlast : last = true := by cases last; exact absurd (hl rfl) (by omega); rfl
    have e1 : c = 61 := h61 2 (by omega) (by omega)
    have e2 : e = 61 := h61 3 (by omega) (by omega)
    subst e1; subst e2; subst hlast
    obtain ⟨g1, g2, g3⟩ := (good2 a b).1 hg
    unfold quad
    rw [if_neg (by rw [val61]; omega), if_pos ⟨rfl, g1, g2, g3, rfl, rfl⟩]
    show some [_] = some [UInt8.ofNat (((0 * 64 + val a) * 64 + val b) * 4096 / 65536)]
    congr 3; omega
  · have hlast : last = true := by cases last; exact absurd (hl rfl) (by omega); rfl
    have e2 : e = 61 := h61 3 (by omega) (by omega)
    subst e2; subst hlast
    obtain ⟨g1, g2, g3, g4⟩ := (good3 a b c).1 hg
    have hc61 : ¬ c = 61 := hn rfl (by omega) (by omega)
    unfold quad
    rw [if_neg (by rw [val61]; omega), if_neg (by intro h; exact hc61 h.2.2.2.2.1), if_pos ⟨rfl, g1, g2, g3, g4, rfl⟩]
    show some [_, _] = some [UInt8.ofNat ((((0 * 64 + val a) * 64 + val b) * 64 + val c) * 64 / 65536), UInt8.ofNat ((((0 * 64 + val a) * 64 + val b) * 64 + val c) * 64 / 256 % 256)]
    congr 3 <;> first | omega | (congr 2; omega)
  · obtain ⟨g1, g2, g3, g4⟩ := (good4 a b c e).1 hg
    unfold quad
    rw [if_pos ⟨g1, g2, g3, g4⟩]
    show some [_, _, _] = some [UInt8.ofNat ((((((0 * 64 + val a) * 64 + val b) * 64 + val c) * 64 + val e) * 1) / 65536), UInt8.ofNat ((((((0 * 64 + val a) * 64 + val b) * 64 + val c) * 64 + val e) * 1) / 256 % 256), UInt8.ofNat ((((((0 * 64 + val a) * 64 + val b) * 64 + val c) * 64 + val e) * 1) % 256)]
    have x1 : (((((0 * 64 + val a) * 64 + val b) * 64 + val c) * 64 + val e) * 1) / 65536 = val a * 4 + val b / 16 := by omega
    have x2 : (((((0 * 64 + val a) * 64 + val b) * 64 + val c) * 64 + val e) * 1) / 256 % 256 = val b % 16 * 16 + val c / 4 := by omega
    have x3 : (((((0 * 64 + val a) * 64 + val b) * 64 + val c) * 64 + val e) * 1) % 256 = val c % 4 * 64 + val e := by omega
    rw [x1, x2, x3]
set_option maxRecDepth 20000 in
theorem quad_bad (last : Bool) (a b c e : UInt8) (m : Nat) (hm : m ≤ 4) (hl : last = false → m = 4) (h61 : ∀ (j : Nat) (hj : j < 4), m ≤ j → [a, b, c, e][j] = 61)
    (hn : last = true → ∀ (hj : m - 1 < 4), 0 < m → ¬ [a, b, c, e][m - 1] = 61) (hg : ¬ Good ([a, b, c, e].take m)) : quad last a b c e = none := by
  have hcs : m < 2 ∨ m = 2 ∨ m = 3 ∨ m = 4 := by omega
  have v61 := val61
  rcases hcs with h2 | rfl | rfl | rfl
  · have e0 : b = 61 := h61 1 (by omega) (by omega)
    subst e0
    unfold quad
    rw [if_neg (by omega), if_neg (by omega), if_neg (by omega)]
  · have e1 : c = 61 := h61 2 (by omega) (by omega)
    have e2 : e = 61 := h61 3 (by omega) (by omega)
    subst e1; subst e2
    have hg2 := fun h => hg ((good2 a b).2 h)
    unfold quad
    rw [if_neg (by omega), if_neg (fun h => hg2 ⟨h.2.1, h.2.2.1, h.2.2.2.1⟩), if_neg (by omega)]
  · have e2 : e = 61 := h61 3 (by omega) (by omega)
    subst e2
    have hlast : last = true := by cases last; exact absurd (hl rfl) (by omega); rfl
    have hc61 : ¬ c = 61 := hn hlast (by omega) (by omega)
    have hg2 := fun h => hg ((good3 a b c).2 h)
    unfold quad
    rw [if_neg (by omega), if_neg (by intro h; exact hc61 h.2.2.2.2.1), if_neg (fun h => hg2 ⟨h.2.1, h.2.2.1, h.2.2.2.1, h.2.2.2.2.1⟩)]
  · have hg2 := fun h => hg ((good4 a b c e).2 h)
    unfold quad
    rw [if_neg hg2]
    cases last with
    | false => rw [if_neg (by intro h; cases h.1), if_neg (by intro h; cases h.1)]
    | true =>
      have he61 : ¬ e = 61 := hn rfl (by omega) (by omega)
      rw [if_neg (by intro h; exact he61 h.2.2.2.2.2), if_neg (by intro h; exact he61 h.2.2.2.2.2)]
end Pu
set_option maxRecDepth 20000 in
theorem Own.capd {B n cap : Nat} {base : Option Addr} {p : List UInt8} {w : World} (h : Own B (.slice base n cap) p w) : p.length ≤ cap := by
  rcases h.2 with ⟨heq, h0⟩ | ⟨g, c, cur, heq, hB, -, hc, -⟩
  · cases heq; omega
  · cases heq; exact hc
set_option maxRecDepth 20000 in
theorem Own.keep {B C : Nat} {v : Value} {ps : List UInt8} {w w' : World} (h : Own B v ps w) (hC : w.heap.size ≤ C) (hb : Below C w w') : Own B v ps w' := by
  refine ⟨h.1, ?_⟩
  rcases h.2 with h | ⟨g, cap, cur, h1, h2, h3, h4⟩
  · exact .inl h
  · refine .inr ⟨g, cap, cur, h1, h2, ?_, h4⟩
    have hg : g < w.heap.size := by
      by_cases hg : g < w.heap.size
      · exact hg
      · rw [Array.getElem?_eq_none (by omega)] at h3; cases h3
    rw [hb.block g (by omega), h3]
set_option maxRecDepth 20000 in
theorem cells3 (X Y Z : UInt8) (w : World) :
    (∀ (j : Nat) (hj : j < [X].length), (w.alloc (.cells #[.int .u8 (X.toNat : Int), .int .u8 (Y.toNat : Int), .int .u8 (Z.toNat : Int)] 115)).cell? (Addr.add ⟨w.heap.size, 0, none⟩ j) = some (.int .u8 ([X][j].toNat : Int))) ∧
    (∀ (j : Nat) (hj : j < [X, Y].length), (w.alloc (.cells #[.int .u8 (X.toNat : Int), .int .u8 (Y.toNat : Int), .int .u8 (Z.toNat : Int)] 115)).cell? (Addr.add ⟨w.heap.size, 0, none⟩ j) = some (.int .u8 ([X, Y][j].toNat : Int))) ∧
    (∀ (j : Nat) (hj : j < [X, Y, Z].length), (w.alloc (.cells #[.int .u8 (X.toNat : Int), .int .u8 (Y.toNat : Int), .int .u8 (Z.toNat : Int)] 115)).cell? (Addr.add ⟨w.heap.size, 0, none⟩ j) = some (.int .u8 ([X, Y, Z][j].toNat : Int))) := by
  refine ⟨?_, ?_, ?_⟩ <;> intro j hj <;> rw [add_off]
  · match j, hj with
    | 0, _ => simp
  · match j, hj with
    | 0, _ => simp
    | 1, _ => simp
  · match j, hj with
    | 0, _ => simp
    | 1, _ => simp
    | 2, _ => simp
set_option maxRecDepth 20000 in
theorem round4i (d : List UInt8) (k : Nat) (p : List UInt8) (g : Nat) (wr : World) (h : k + 4 ≤ d.length) (hp : Pu.quads d = (Pu.quads (d.drop k)).map fun y => p ++ y)
    (hc : ∀ (j : Nat) (hj : j < d.length), wr.cell? ⟨g, j, none⟩ = some (.int .u8 (d[j].toNat : Int))) :
    ∃ a b c e : UInt8, (∀ (j : Nat) (hj : j < [a, b, c, e].length), wr.cell? ⟨g, k + j, none⟩ = some (.int .u8 ([a, b, c, e][j].toNat : Int))) ∧
      (∀ x, Pu.quad (decide (k + 4 = d.length)) a b c e = some x → Pu.quads d = (Pu.quads (d.drop (k + 4))).map fun y => (p ++ x) ++ y) ∧ (Pu.quad (decide (k + 4 = d.length)) a b c e = none → Pu.quads d = none) := by
  refine ⟨_, _, _, _, ?_, fun x => Pu.quads_some d k p x h hp, Pu.quads_none d k p h hp⟩
  intro j hj
  match j, hj with
  | 0, _ => exact hc k (by omega)
  | 1, _ => exact hc (k + 1) (by omega)
  | 2, _ => exact hc (k + 2) (by omega)
  | 3, _ => exact hc (k + 3) (by omega)
set_option maxRecDepth 20000 in
theorem notLong (s : ByteArray) (w : World) (hs : s.size ≤ 100000) : Calls Tryz.prog 23 #[.string s] w fun e w' => e = .returned (.bool false) ∧ w = w' := by
  have hc0 : decide ((100000 : Int) < (s.size : Int)) = false := by simp; omega
  go_enter Tryz.func23, Tryz.ntmps23
  go_wp2
  go_ret
  exact ⟨rfl, rfl⟩
set_option maxRecDepth 100000 in
set_option maxHeartbeats 4000000 in
theorem implUn (s : ByteArray) (w : World) (hs : s.size ≤ 100000) :
    Calls Tryz.prog 63 #[.string s] w fun e w' => e = .returned (bytesV (Pu.un64 s.data.toList)) ∧ Below w.heap.size w w' := by
  obtain ⟨i0, hi, hz0, hz1, hz2⟩ := info_parts Tryz.info5
  have hc0 : decide ((100000 : Int) < (s.size : Int)) = false := by simp; omega
  have hstrip := mkH (fun W => implStrip s W hs)
  have hu : Hid (Pu.un64 s.data.toList = if (Pu.strip s.data.toList).length % 4 = 0 then Pu.quads (Pu.strip s.data.toList) else none) := rfl
  have hdl : (Pu.strip s.data.toList).length ≤ s.size := by
    have := Pu.strip_len s.data.toList s.size
    rw [List.take_of_length_le (by simp)] at this
    exact this
  generalize Pu.strip s.data.toList = d at *
  go_enter Tryz.func63, Tryz.ntmps63
  go_wp2_with fail
  refine (notLong s _ hs).mono ?_
  rintro e w2 ⟨rfl, rfl⟩
  go_wp2_with fail
  have hroom := mkH (room w)
  obtain ⟨W, hW⟩ : ∃ W, W = w.alloc (.cells #[.bool false, .string ⟨#[]⟩] 27) := ⟨_, rfl⟩
  rw [← hW] at hroom ⊢
  have HW := mkH hW
  clear hW
  refine (hstrip.out _).mono ?_
  rintro e w1 ⟨v, rfl, hown, hb⟩
  have hWs := hroom.out.size
  have hbs := hb.size
  obtain ⟨base, cap, rfl, hd⟩ := hown.part
  have Hd := mkH hd
  have hbW := mkH hb
  clear hd hstrip
  by_cases h4 : d.length % 4 = 0
  · rw [if_pos h4] at hu
    have hmod : ((d.length : Int) % 4 != 0) = false := by rw [bne, beq_iff_eq.2 (by omega)]; rfl
    have hcap := hown.capd
    go_wp2_with fail
    go_loopw [4, 5] (fun v i wx => ∃ (k : Nat) (p : List UInt8), k ≤ d.length ∧ k % 4 = 0 ∧ i = .int .i64 k ∧ p.length ≤ k ∧ Hid (Pu.quads d = (Pu.quads (d.drop k)).map fun y => p ++ y) ∧ Own w1.heap.size v p wx ∧ Below w1.heap.size w1 wx) (fun _ i _ => d.length - (RowKit.intOf i).toNat)
    case atStart =>
      refine ⟨0, [], Nat.zero_le _, rfl, rfl, by simp, ?_, Own.nil _ _, Below.refl _ _⟩
      show Pu.quads d = (Pu.quads d).map fun y => [] ++ y
      cases Pu.quads d <;> simp
    case round =>
      obtain ⟨k, p, hk, hk4, rfl, hpl, hp, hown2, hb2⟩ := hrel
      have hbs2 := hb2.size
      have hbT : Hid (Below W.heap.size W wr) := hbW.out.trans (hb2.mono hbs)
      by_cases hlt : k < d.length
      · have hk4' : k + 4 ≤ d.length := by omega
        obtain ⟨g, rfl, hgl, hcell⟩ := Hd.out.resolve_left (by rintro rfl; simp at hlt)
        obtain ⟨a, b, c, e, hc4, hsome, hnone⟩ := round4i d k p g wr hk4' hp.out (fun j hj => (hb2.cell (p := ⟨g, j, none⟩) hgl).trans (hcell j hj))
        have hsome := mkH hsome
        have hnone := mkH hnone
        have hc4 := mkH hc4
        clear hp hcell
        by_cases hl : k + 4 = d.length
        · have fl : ((k : Int) + 4 == (d.length : Int)) = true := by rw [beq_iff_eq]; omega
          have htr := mkH (trimRight g k (cap - k) [a, b, c, e] wr (by simp) (by simp) (by simp; omega) hc4.out)
          have Hl := mkH hl
          clear hl
          go_wp2_with fail
          rw [show k + 4 - k = 4 by omega]
          refine htr.out.mono ?_
          rintro e2 w2 ⟨m, hm, rfl, h61, hn61, rfl⟩
          have hm : m ≤ 4 := hm
          have h61 := mkH h61
          have hn61 := mkH (fun (_ : decide (k + 4 = d.length) = true) => hn61)
          have HL : Hid (decide (k + 4 = d.length) = false → m = 4) := fun h => by rw [Hl.out] at h; simp at h
          clear htr
          have hlm : ([a, b, c, e].take m).length = m := by rw [List.length_take]; exact Nat.min_eq_left hm
          have hgr := mkH (implGroupU g k (cap - k) ([a, b, c, e].take m) wr (by rw [hlm]; exact hm) (by omega) (fun j hj => by
            rw [List.getElem_take]
            exact hc4.out j (by rw [hlm] at hj; simp; omega)))
          rw [hlm] at hgr
          have hgood := mkH (fun hg => hsome.out _ (Pu.quad_good _ a b c e m hm HL.out h61.out hn61.out hg))
          have hbad := mkH (fun hg => hnone.out (Pu.quad_bad _ a b c e m hm HL.out h61.out hn61.out hg))
          generalize [a, b, c, e].take m = l at *
          clear hsome hnone h61 hn61 HL hc4
          go_wp2_with fail
          refine hgr.out.mono ?_
          rintro e3 w3 ⟨⟨x, y, z, bb, rfl, hyes, hno⟩, hb3⟩
          have hbs3 := hb3.size
          have hown3 := hown2.keep (Nat.le_refl _) hb3
          have hbT3 : Hid (Below W.heap.size W w3) := hbT.out.trans (hb3.mono (by omega))
          have hb23 : Below w1.heap.size w1 w3 := hb2.trans (hb3.mono hbs2)
          clear hgr hown2 hb2 hb3 hbT
          cases bb with
          | false =>
            have Hn : Hid (Pu.un64 s.data.toList = none) := hu.out.trans (hbad.out (hno rfl))
            clear hyes hno hgood hbad
            have hlt3 : w.heap.size < w3.heap.size := by omega
            obtain ⟨q0, q1, g0, g1⟩ := hroom.out.on hbT3.out
            have hne3 : ¬ w.heap.size = w3.heap.size := by omega
            have hne4 : ¬ w3.heap.size = w.heap.size := by omega
            have hfin : Hid (Below w.heap.size w w3) := hroom.out.below.trans (hbT3.out.mono (by omega))
            go_wp2
            refine bodyPost_ret (v := bytesV none) (by simp [results, Tryz.results63, go_sem, bytesV, q0, q1, hlt3]) rfl ⟨by rw [Hn.out], ?_⟩
            exact ((hfin.out.setCell (p := ⟨w.heap.size, 0, none⟩) (Nat.le_refl _) _).setCell (p := ⟨w.heap.size, 1, none⟩) (Nat.le_refl _) _).alloc (by simp; omega) _
          | true =>
            obtain ⟨hg, hx, hy, hz⟩ := hyes rfl
            have h2m : 2 ≤ m := by rw [← hlm]; exact hg.1
            obtain ⟨X, Y, Z, ho, rfl, rfl, rfl⟩ := Pu.out3_cells l hg (by rw [hlm]; exact hm) x y z hx hy hz
            have hq := mkH (hgood.out hg)
            rw [ho] at hq
            clear hyes hno hgood hbad
            have hown4 : Own w1.heap.size u4 p (w3.alloc (.cells #[.int .u8 (X.toNat : Int), .int .u8 (Y.toNat : Int), .int .u8 (Z.toNat : Int)] 115)) := World.ownsRow.alloc hown3 _
            have hb4 := hb23.alloc (by omega) (.cells #[.int .u8 (X.toNat : Int), .int .u8 (Y.toNat : Int), .int .u8 (Z.toNat : Int)] 115)
            obtain ⟨hcl2, hcl3, hcl4⟩ := cells3 X Y Z w3
            have hcs : m = 2 ∨ m = 3 ∨ m = 4 := by omega
            clear hlm h2m hb23 hown3 hx hy hz
            rcases hcs with rfl | rfl | rfl
            · go_wp2_with (at_builtin; go_must (refine wp_appc (W := w1) rfl _ _ 22 rfl i0 Tryz.underlying22 hi hz0 hz1 hz2 w1.heap.size u4 p rfl hown4 ⟨w3.heap.size, 0, none⟩ [X] 1 _ rfl rfl hcl2 (by simp; omega) (Nat.le_refl _) hb4 ?_; intro v5 w5 hown5 hb5))
              go_roundw
              case rel => exact ⟨k + 4, _, by omega, by omega, by go_num, by simp; omega, hq.out, hown5, hb5⟩
              case measure => simp [RowKit.intOf]; omega
            · go_wp2_with (at_builtin; go_must (refine wp_appc (W := w1) rfl _ _ 22 rfl i0 Tryz.underlying22 hi hz0 hz1 hz2 w1.heap.size u4 p rfl hown4 ⟨w3.heap.size, 0, none⟩ [X, Y] 2 _ rfl rfl hcl3 (by simp; omega) (Nat.le_refl _) hb4 ?_; intro v5 w5 hown5 hb5))
              go_roundw
              case rel => exact ⟨k + 4, _, by omega, by omega, by go_num, by simp; omega, hq.out, hown5, hb5⟩
              case measure => simp [RowKit.intOf]; omega
            · go_wp2_with (at_builtin; go_must (refine wp_appc (W := w1) rfl _ _ 22 rfl i0 Tryz.underlying22 hi hz0 hz1 hz2 w1.heap.size u4 p rfl hown4 ⟨w3.heap.size, 0, none⟩ [X, Y, Z] 3 _ rfl rfl hcl4 (by simp; omega) (Nat.le_refl _) hb4 ?_; intro v5 w5 hown5 hb5))
              go_roundw
              case rel => exact ⟨k + 4, _, by omega, by omega, by go_num, by simp; omega, hq.out, hown5, hb5⟩
              case measure => simp [RowKit.intOf]; omega
        · have fl : ((k : Int) + 4 == (d.length : Int)) = false := by rw [beq_eq_false_iff_ne]; omega
          have HL : Hid (decide (k + 4 = d.length) = false → 4 = 4) := fun _ => rfl
          have hm : 4 ≤ 4 := Nat.le_refl 4
          have h61 : Hid (∀ (j : Nat) (hj : j < 4), 4 ≤ j → [a, b, c, e][j] = 61) := fun j hj h => by omega
          have hn61 : Hid (decide (k + 4 = d.length) = true → ∀ (hj : 4 - 1 < 4), 0 < 4 → ¬ [a, b, c, e][4 - 1] = 61) := fun h => absurd (of_decide_eq_true h) hl
          have hlm : ([a, b, c, e].take 4).length = 4 := by rw [List.length_take]; exact Nat.min_eq_left hm
          have hgr := mkH (implGroupU g k (cap - k) ([a, b, c, e].take 4) wr (by rw [hlm]; exact hm) (by omega) (fun j hj => by
            rw [List.getElem_take]
            exact hc4.out j (by rw [hlm] at hj; simp; omega)))
          rw [hlm] at hgr
          have hgood := mkH (fun hg => hsome.out _ (Pu.quad_good _ a b c e 4 hm HL.out h61.out hn61.out hg))
          have hbad := mkH (fun hg => hnone.out (Pu.quad_bad _ a b c e 4 hm HL.out h61.out hn61.out hg))
          generalize [a, b, c, e].take 4 = l at *
          clear hsome hnone h61 hn61 HL hc4
          go_wp2_with fail
          rw [show k + 4 - k = 4 by omega]
          refine hgr.out.mono ?_
          rintro e3 w3 ⟨⟨x, y, z, bb, rfl, hyes, hno⟩, hb3⟩
          have hbs3 := hb3.size
          have hown3 := hown2.keep (Nat.le_refl _) hb3
          have hbT3 : Hid (Below W.heap.size W w3) := hbT.out.trans (hb3.mono (by omega))
          have hb23 : Below w1.heap.size w1 w3 := hb2.trans (hb3.mono hbs2)
          clear hgr hown2 hb2 hb3 hbT
          cases bb with
          | false =>
            have Hn : Hid (Pu.un64 s.data.toList = none) := hu.out.trans (hbad.out (hno rfl))
            clear hyes hno hgood hbad
            have hlt3 : w.heap.size < w3.heap.size := by omega
            obtain ⟨q0, q1, g0, g1⟩ := hroom.out.on hbT3.out
            have hne3 : ¬ w.heap.size = w3.heap.size := by omega
            have hne4 : ¬ w3.heap.size = w.heap.size := by omega
            have hfin : Hid (Below w.heap.size w w3) := hroom.out.below.trans (hbT3.out.mono (by omega))
            go_wp2
            refine bodyPost_ret (v := bytesV none) (by simp [results, Tryz.results63, go_sem, bytesV, q0, q1, hlt3]) rfl ⟨by rw [Hn.out], ?_⟩
            exact ((hfin.out.setCell (p := ⟨w.heap.size, 0, none⟩) (Nat.le_refl _) _).setCell (p := ⟨w.heap.size, 1, none⟩) (Nat.le_refl _) _).alloc (by simp; omega) _
          | true =>
            obtain ⟨hg, hx, hy, hz⟩ := hyes rfl
            have h2m : 2 ≤ 4 := by rw [← hlm]; exact hg.1
            obtain ⟨X, Y, Z, ho, rfl, rfl, rfl⟩ := Pu.out3_cells l hg (by rw [hlm]; exact hm) x y z hx hy hz
            have hq := mkH (hgood.out hg)
            rw [ho] at hq
            clear hyes hno hgood hbad
            have hown4 : Own w1.heap.size u4 p (w3.alloc (.cells #[.int .u8 (X.toNat : Int), .int .u8 (Y.toNat : Int), .int .u8 (Z.toNat : Int)] 115)) := World.ownsRow.alloc hown3 _
            have hb4 := hb23.alloc (by omega) (.cells #[.int .u8 (X.toNat : Int), .int .u8 (Y.toNat : Int), .int .u8 (Z.toNat : Int)] 115)
            obtain ⟨hcl2, hcl3, hcl4⟩ := cells3 X Y Z w3
            clear hlm h2m hb23 hown3 hx hy hz
            go_wp2_with (at_builtin; go_must (refine wp_appc (W := w1) rfl _ _ 22 rfl i0 Tryz.underlying22 hi hz0 hz1 hz2 w1.heap.size u4 p rfl hown4 ⟨w3.heap.size, 0, none⟩ [X, Y, Z] 3 _ rfl rfl hcl4 (by simp; omega) (Nat.le_refl _) hb4 ?_; intro v5 w5 hown5 hb5))
            go_roundw
            case rel => exact ⟨k + 4, _, by omega, by omega, by go_num, by simp; omega, hq.out, hown5, hb5⟩
            case measure => simp [RowKit.intOf]; omega
      · obtain ⟨q0, q1, g0, g1⟩ := hroom.out.on hbT.out
        have Hn : Hid (Pu.un64 s.data.toList = some p) := by
          rw [hu.out, hp.out, List.drop_eq_nil_of_le (by omega), Pu.quads]
          simp [Hid]
        have hbk := hown2.back (P := Tryz.prog) 22 9 Tryz.underlying22 Tryz.underlying5 Tryz.underlying9
        clear hp
        go_wp2
        refine bodyPost_ret (v := bytesV (some p)) (by simp [results, Tryz.results63, go_sem, bytesV, q0, q1]) rfl ⟨by rw [Hn.out], ?_⟩
        have hfin : Below w.heap.size w wr := hroom.out.below.trans (hbT.out.mono (by omega))
        exact ((hfin.setCell (p := ⟨w.heap.size, 0, none⟩) (Nat.le_refl _) _).setCell (p := ⟨w.heap.size, 1, none⟩) (Nat.le_refl _) _)
  · rw [if_neg h4] at hu
    obtain ⟨q0, q1, g0, g1⟩ := hroom.out.on hb
    have hmod : ((d.length : Int) % 4 != 0) = true := by rw [bne, beq_eq_false_iff_ne.2 (by omega)]; rfl
    go_wp2
    refine bodyPost_ret (v := bytesV none) (by simp [results, Tryz.results63, go_sem, bytesV, q0, q1]) rfl ⟨by rw [hu.out], ?_⟩
    have hfin : Below w.heap.size w w1 := hroom.out.below.trans (hb.mono (by omega))
    exact ((hfin.setCell (p := ⟨w.heap.size, 0, none⟩) (Nat.le_refl _) _).setCell (p := ⟨w.heap.size, 1, none⟩) (Nat.le_refl _) _)
end Go.Proofs.YtbppdfjigcelkaaGreatDoor
namespace Go.Proofs.YtbppdfjigcelkaaGreatDoor
open Go.RowKit Go.Lib
def Pw.data (l t : List UInt8) : Option (List UInt8) := if l = [66] ∨ l = [98] then Pu.un64 t else if l = [81] ∨ l = [113] then Pw.wq [] t else none
set_option maxRecDepth 20000 in
theorem retWd {w wr : World} {tmps : Array Value} {x : Option (List UInt8)} (cs : Array Value) (hp : tmps.getD 4 undef = .pointer (some ⟨w.heap.size, 0, none⟩)) {old : Array Value} (hres : wr.heap[w.heap.size]? = some (.cells old 27 (0, 0))) (hb : Below w.heap.size w wr) (h2 : cs.size = 2) (ho : bytesV x = .agg cs) :
    bodyPost Tryz.prog Tryz.f48 (fun e w' => e = .returned (bytesV x) ∧ Below w.heap.size w w') Exit.ret { tmps := tmps, defers := [] } (wr.setRow w.heap.size cs) := by
  refine bodyPost_ret (v := .agg cs) (results_cell_row Tryz.results48 _ _ w.heap.size 27 _ (0, 0) _ hp (setRow_heap _ _ _ _ _ _ hres) Tryz.underlying27 rfl ?_) rfl ⟨by rw [ho], hb.grown (grown_setRow _ _ _) hb.size (fun j hj => by cases hj; exact Nat.le_refl _)⟩
  rw [h2]
  kernel_rfl
set_option maxRecDepth 20000 in
set_option maxHeartbeats 4000000 in
theorem implWordData (l t : ByteArray) (w : World) (ht : t.size ≤ 100000) (hE : ErrCell w) (m : Int) (hm : w.cell? ⟨2, 0, none⟩ = some (.int .i64 m)) :
    Calls Tryz.prog 48 #[.string l, .string t] w fun e w' => e = .returned (bytesV (Pw.data l.data.toList t.data.toList)) ∧ Below w.heap.size w w' := by
  have hml : 2 < w.heap.size := World.block_lt_of_cell? _ _ hm
  obtain ⟨W, hW⟩ : ∃ W, W = w.alloc (.cells #[.bool false, .string ⟨#[]⟩] 27) := ⟨_, rfl⟩
  have hN0 : W.heap[w.heap.size]? = some (.cells #[.bool false, .string ⟨#[]⟩] 27 (0, 0)) := by rw [hW]; exact heap_alloc_at _ _
  have hB0 : Below w.heap.size w W := by rw [hW]; exact (Below.refl _ _).alloc (Nat.le_refl _) _
  have hz0 : W.heap.size = w.heap.size + 1 := by rw [hW, World.size_alloc]
  have hmW := (hB0.cell (p := ⟨2, 0, none⟩) hml).trans hm
  have hEW := hE.below hB0
  have HW := mkH hW
  have HN := mkH hN0
  have HB := mkH hB0
  clear hW hN0 hB0 hm hE
  have hl : l.data.toList = l.toList := (ByteArray.toList_eq _).symm
  rw [hl]
  unfold Pw.data
  by_cases hb : l.toList = [66] ∨ l.toList = [98]
  · rw [if_pos hb]
    have cU := mkH (implUn t W ht)
    have hq : (l.toList == [66]) = true ∨ ((l.toList == [66]) = false ∧ (l.toList == [98]) = true) := by
      rcases hb with h | h
      · exact .inl (by rw [h]; rfl)
      · exact .inr ⟨by rw [h]; decide, by rw [h]; rfl⟩
    generalize Pu.un64 t.data.toList = x at *
    clear hb hmW hEW
    rcases hq with q1 | ⟨q1, q2⟩
    all_goals
      go_enter Tryz.func48, Tryz.ntmps48
      go_wp2_with fail
      rw [← HW.out]
      refine cU.out.mono ?_
      rintro e w1 ⟨rfl, hb1⟩
      have hr1 := (hb1.block w.heap.size (by omega)).trans HN.out
      have hw1 := mkH (HB.out.trans (hb1.mono (by omega)))
      clear cU hb1
      cases x with
      | none =>
        unfold bytesV
        go_wp2_with (first | (refine wpL_store_row rfl 27 _ _ rfl w.heap.size #[.bool false, .string ⟨#[]⟩] rfl rfl 27 _ hr1 (by kernel_rfl) rfl (by simp [Value.oneCell']) ?_) | go_in)
        exact retWd (x := none) _ rfl hr1 hw1.out rfl rfl
      | some y =>
        unfold bytesV
        go_wp2_with (first | (refine wpL_store_row rfl 27 _ _ rfl w.heap.size #[.bool true, .string ⟨y.toArray⟩] rfl rfl 27 _ hr1 (by kernel_rfl) rfl (by simp [Value.oneCell']) ?_) | go_in)
        exact retWd (x := some y) _ rfl hr1 hw1.out rfl rfl
  · rw [if_neg hb]
    have b1 : (l.toList == [66]) = false := by rw [beq_eq_false_iff_ne]; exact fun h => hb (.inl h)
    have b2 : (l.toList == [98]) = false := by rw [beq_eq_false_iff_ne]; exact fun h => hb (.inr h)
    by_cases hc : l.toList = [81] ∨ l.toList = [113]
    · rw [if_pos hc]
      have hq : (l.toList == [81]) = true ∨ ((l.toList == [81]) = false ∧ (l.toList == [113]) = true) := by
        rcases hc with h | h
        · exact .inl (by rw [h]; rfl)
        · exact .inr ⟨by rw [h]; decide, by rw [h]; rfl⟩
      have hcnt : countB t ⟨#[95]⟩ ≤ 1100000 := by
        unfold countB
        have := count_le t.data.toList [95]
        have hl2 : t.data.toList.length = t.size := by simp
        show count t.data.toList [95] ≤ _
        omega
      have hrl : replaceAll t.data.toList [95] [32] = t.data.toList.map Pw.und := Pw.replace_und _
      have cR := mkH (Tryz.strings_ReplaceAll t ⟨#[95]⟩ ⟨#[32]⟩ m W (by omega) hmW (by decide) (by show t.size + countB t ⟨#[95]⟩ * 1 ≤ _; omega))
      rw [show (⟨#[95]⟩ : ByteArray).data.toList = [95] from rfl, show (⟨#[32]⟩ : ByteArray).data.toList = [32] from rfl, hrl] at cR
      have HEW := mkH hEW
      have hsz : (⟨(t.data.toList.map Pw.und).toArray⟩ : ByteArray).size ≤ 1100000 := by
        show (t.data.toList.map Pw.und).toArray.size ≤ _
        simp
        omega
      have hqb : Pl.qb [] (⟨(t.data.toList.map Pw.und).toArray⟩ : ByteArray).data.toList = Pw.wq [] t.data.toList := by
        rw [← Pw.qb_und]
      have cQ := mkH (fun V (hV : Below W.heap.size W V) => implQuotedBytes ⟨(t.data.toList.map Pw.und).toArray⟩ V hsz (HEW.out.below hV))
      rw [hqb] at cQ
      generalize (⟨(t.data.toList.map Pw.und).toArray⟩ : ByteArray) = T at *
      generalize Pw.wq [] t.data.toList = x at *
      clear hb hc hmW hEW hrl hcnt hqb
      rcases hq with q1 | ⟨q1, q2⟩
      all_goals
        go_enter Tryz.func48, Tryz.ntmps48
        go_wp2_with fail
        rw [← HW.out]
        refine cR.out.mono ?_
        rintro e w1 ⟨rfl, hb1⟩
        have Hb1 := mkH hb1
        clear cR hb1
        go_wp2_with fail
        refine (cQ.out w1 Hb1.out).mono ?_
        rintro e w2 ⟨hQ, hb2⟩
        have hbb := Hb1.out.trans (hb2.mono Hb1.out.size)
        have hr1 := (hbb.block w.heap.size (by omega)).trans HN.out
        have hw1 := mkH (HB.out.trans (hbb.mono (by omega)))
        clear cQ hb2 hbb
        cases x with
        | none =>
          unfold QbOut at hQ
          subst hQ
          have hcv := (Own.nil w.heap.size w2).back (P := Tryz.prog) 22 9 Tryz.underlying22 Tryz.underlying5 Tryz.underlying9
          go_wp2_with (first | (refine wpL_store_row rfl 27 _ _ rfl w.heap.size #[.bool false, .string ⟨#[]⟩] rfl rfl 27 _ hr1 (by kernel_rfl) rfl (by simp [Value.oneCell']) ?_) | go_in)
          exact retWd (x := none) _ rfl hr1 hw1.out rfl rfl
        | some y =>
          obtain ⟨v, rfl, hO⟩ := hQ
          have hcv := hO.back (P := Tryz.prog) 22 9 Tryz.underlying22 Tryz.underlying5 Tryz.underlying9
          go_wp2_with (first | (refine wpL_store_row rfl 27 _ _ rfl w.heap.size #[.bool true, .string ⟨y.toArray⟩] rfl rfl 27 _ hr1 (by kernel_rfl) rfl (by simp [Value.oneCell']) ?_) | go_in)
          exact retWd (x := some y) _ rfl hr1 hw1.out rfl rfl
    · rw [if_neg hc]
      have b3 : (l.toList == [81]) = false := by rw [beq_eq_false_iff_ne]; exact fun h => hc (.inl h)
      have b4 : (l.toList == [113]) = false := by rw [beq_eq_false_iff_ne]; exact fun h => hc (.inr h)
      have hr1 := HN.out
      rw [HW.out] at hr1
      have hw1 := mkH HB.out
      rw [HW.out] at hw1
      clear hb hc hmW hEW
      go_enter Tryz.func48, Tryz.ntmps48
      go_wp2_with (first | (refine wpL_store_row rfl 27 _ _ rfl w.heap.size #[.bool false, .string ⟨#[]⟩] rfl rfl 27 _ hr1 (by kernel_rfl) rfl (by simp [Value.oneCell']) ?_) | go_in)
      exact retWd (x := none) _ rfl hr1 hw1.out rfl rfl
end Go.Proofs.YtbppdfjigcelkaaGreatDoor
namespace Go.Proofs.YtbppdfjigcelkaaGreatDoor
open Go.RowKit Go.Lib Go.Maps
set_option maxRecDepth 20000 in
theorem taker12 (set top : Int) (hs : set = 1 ∧ top = 127 ∨ set = 2 ∧ top = 255) (W : World) : Taker set 68 (.agg #[.int .i64 top]) 151 W where
  ahead := fun _ => by kernel_rfl
  meth := fun _ => by kernel_rfl
  enters := enters_of Tryz.func151 (by kernel_rfl) rfl
  take := fun s w h0 _ _ => implTake12 set top hs s h0 w
set_option maxRecDepth 20000 in
theorem taker3 (m1 m2 : Nat) (W : World) (hN : Nine W m1 m2) : Taker 3 72 (.agg #[.map (some m1), .map (some m2)]) 153 W where
  ahead := fun _ => by kernel_rfl
  meth := fun _ => by kernel_rfl
  enters := enters_of Tryz.func153 (by kernel_rfl) rfl
  take := fun s w h0 _ hb => implTake3 m1 m2 s h0 w (hN.below hb)
set_option maxRecDepth 20000 in
theorem taker4 (W : World) (hT : Lib.Utf8Tabs 3 4 W) : Taker 4 75 (.agg #[]) 155 W where
  ahead := fun _ => by kernel_rfl
  meth := fun _ => by kernel_rfl
  enters := enters_of Tryz.func155 (by kernel_rfl) rfl
  take := fun s w h0 _ hb => implTake4 s h0 w (tabsD_below hT hb)
set_option maxRecDepth 20000 in
theorem taker5 (W : World) : Taker 5 76 (.agg #[]) 159 W where
  ahead := fun _ => by kernel_rfl
  meth := fun _ => by kernel_rfl
  enters := enters_of Tryz.func159 (by kernel_rfl) rfl
  take := fun s w h0 h1 _ => implTake5 s h0 h1 w
/-- What both sides answer to a set and bytes. -/
def decA (set : Int) (l : List UInt8) : Option (List Int) := if set < 1 ∨ 5 < set then none else Pd.dec set [] l
set_option maxRecDepth 20000 in
set_option maxHeartbeats 1000000 in
theorem implDecode (set : Int) (s : ByteArray) (w : World) (hs : s.size ≤ 100000) (hT : Lib.Utf8Tabs 3 4 w) :
    Calls Tryz.prog 7 #[.int .i64 set, .string s] w fun e w' => DecOut w.heap.size (decA set s.data.toList) e w' ∧ Below w.heap.size w w' := by
  have hB0 : Below w.heap.size w (w.alloc (.cells #[.bool false, .int .i64 0, .slice none 0 0] 30)) := (Below.refl _ _).alloc (Nat.le_refl _) _
  unfold decA
  by_cases h : set < 1 ∨ 5 < set
  · rw [if_pos h]
    have hres0 : (w.alloc (.cells #[.bool false, .int .i64 0, .slice none 0 0] 30)).heap[w.heap.size]? = some (.cells #[.bool false, .int .i64 0, .slice none 0 0] 30 (0, 0)) := heap_alloc_at _ _
    have hc := mkHid (implChars0 set (w.alloc (.cells #[.bool false, .int .i64 0, .slice none 0 0] 30)) h)
    clear hT
    go_enter Tryz.func7, Tryz.ntmps7
    go_wp2_with fail
    refine hc.out.mono ?_
    rintro e w2 ⟨rfl, rfl⟩
    clear hc
    go_wp2_with (first | (refine wpL_store_row rfl 30 _ _ rfl w.heap.size #[.bool false, .int .i64 0, .slice none 0 0] rfl rfl 30 _ hres0 (by kernel_rfl) rfl (by simp [Value.oneCell']) ?_) | go_in)
    exact retD _ rfl hres0 hB0 rfl ⟨_, rfl⟩
  · rw [if_neg h]
    refine implDec set s w hs ?_
    have hset : set = 1 ∨ set = 2 ∨ set = 3 ∨ set = 4 ∨ set = 5 := by omega
    rcases hset with rfl | rfl | rfl | rfl | rfl
    · refine (implChars1 _).mono ?_
      rintro e W ⟨rfl, rfl⟩
      exact ⟨_, _, _, rfl, Below.refl _ _, taker12 1 127 (.inl ⟨rfl, rfl⟩) _⟩
    · refine (implChars2 _).mono ?_
      rintro e W ⟨rfl, rfl⟩
      exact ⟨_, _, _, rfl, Below.refl _ _, taker12 2 255 (.inr ⟨rfl, rfl⟩) _⟩
    · refine (implChars3 _).mono ?_
      rintro e W ⟨m1, m2, rfl, hN, -, -, hb⟩
      exact ⟨_, _, _, rfl, hb, taker3 m1 m2 _ hN⟩
    · refine (implChars4 _).mono ?_
      rintro e W ⟨rfl, rfl⟩
      exact ⟨_, _, _, rfl, Below.refl _ _, taker4 _ (tabsD_below hT hB0)⟩
    · refine (implChars5 _).mono ?_
      rintro e W ⟨rfl, rfl⟩
      exact ⟨_, _, _, rfl, Below.refl _ _, taker5 _⟩
end Go.Proofs.YtbppdfjigcelkaaGreatDoor
namespace Go.Proofs.YtbppdfjigcelkaaGreatDoor
open Go.Lib
namespace Pw
/-- The points of a word's three inner parts. -/
def three (a b c : List UInt8) : Option (List Int) := (data b c).bind (decA (setFrom 0 (lower a)))
/-- The program's way. -/
def word (l : List UInt8) : Option (List Int) :=
  if hasPrefix l [61, 63] = true ∧ hasSuffix (trimPrefix l [61, 63]) [63, 61] = true ∧ l.length ≤ 75 then
    (match Cu.cut 63 [] (trimSuffix (trimPrefix l [61, 63]) [63, 61]) with
      | [a, b, c] => three a b c
      | _ => none)
  else none
/-- The specification's way. -/
def wordS (l : List UInt8) : Option (List Int) :=
  if l.length ≤ 75 ∧ hasPrefix l [61, 63] = true ∧ hasSuffix l [63, 61] = true then
    (match Cu.cut 63 [] l with
      | [x, a, b, c, y] => if x = [61] ∧ y = [61] ∧ setFrom 0 (lower a) ≠ 0 then three a b c else none
      | _ => none)
  else none
set_option maxRecDepth 20000 in
theorem three_no (a b c : List UInt8) (h : setFrom 0 (lower a) = 0) : three a b c = none := by
  unfold three
  rw [h]
  cases data b c with
  | none => rfl
  | some x => rfl
set_option maxRecDepth 20000 in
theorem suf_of_inner (l : List UInt8) (h1 : hasPrefix l [61, 63] = true) (h2 : hasSuffix (trimPrefix l [61, 63]) [63, 61] = true) : hasSuffix l [63, 61] = true := by
  have e := word_shape l h1 h2
  unfold hasSuffix
  rw [List.isSuffixOf_iff_suffix]
  exact ⟨61 :: 63 :: trimSuffix (trimPrefix l [61, 63]) [63, 61], by rw [List.cons_append, List.cons_append]; exact e.symm⟩
set_option maxRecDepth 20000 in
theorem word_same (l : List UInt8) : wordS l = word l := by
  unfold wordS word
  by_cases h : hasPrefix l [61, 63] = true ∧ hasSuffix (trimPrefix l [61, 63]) [63, 61] = true ∧ l.length ≤ 75
  · obtain ⟨h1, h2, h3⟩ := h
    rw [if_pos ⟨h3, h1, suf_of_inner l h1 h2⟩, if_pos ⟨h1, h2, h3⟩]
    have e := word_shape l h1 h2
    have ec : Cu.cut 63 [] l = [61] :: (Cu.cut 63 [] (trimSuffix (trimPrefix l [61, 63]) [63, 61]) ++ [[61]]) := by
      conv => lhs; rw [e]
      exact word_parts _
    rw [ec]
    generalize Cu.cut 63 [] (trimSuffix (trimPrefix l [61, 63]) [63, 61]) = P
    match P with
    | [] => rfl
    | [_] => rfl
    | [_, _] => rfl
    | [a, b, c] =>
      show (if [61] = [61] ∧ [61] = [61] ∧ setFrom 0 (lower a) ≠ 0 then three a b c else none) = three a b c
      by_cases hz : setFrom 0 (lower a) = 0
      · rw [if_neg (fun h => h.2.2 hz), three_no a b c hz]
      · rw [if_pos ⟨rfl, rfl, hz⟩]
    | [_, _, _, _] => rfl
    | _ :: _ :: _ :: _ :: _ :: _ => rfl
  · by_cases hs : l.length ≤ 75 ∧ hasPrefix l [61, 63] = true ∧ hasSuffix l [63, 61] = true
    · rw [if_pos hs, if_neg h]
      have h3 : hasSuffix (trimPrefix l [61, 63]) [63, 61] = false := by
        cases hx : hasSuffix (trimPrefix l [61, 63]) [63, 61] with
        | false => rfl
        | true => exact absurd ⟨hs.2.1, hx, hs.1⟩ h
      have hn := word_short l hs.2.1 hs.2.2 h3
      generalize Cu.cut 63 [] l = P at hn
      match P, hn with
      | [], _ => rfl
      | [_], _ => rfl
      | [_, _], _ => rfl
      | [_, _, _], _ => rfl
      | [_, _, _, _], _ => rfl
      | [_, _, _, _, _], hn => exact absurd rfl hn
      | _ :: _ :: _ :: _ :: _ :: _ :: _, _ => rfl
    · rw [if_neg hs, if_neg h]
end Pw
end Go.Proofs.YtbppdfjigcelkaaGreatDoor
