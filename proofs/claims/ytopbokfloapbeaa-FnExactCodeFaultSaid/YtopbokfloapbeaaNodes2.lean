
/- Lists of a filter's nodes: made anew, held against one another. -/
import Derived.Test.YtopbokfloapbeaaNodes
namespace Go.Proofs.Ytopbokfloapbeaa
open Go.RowKit Go.Lib Go.Maps
theorem grN_refl (w : World) (r : Option Nat) : w.grownBy w r := ⟨rfl, rfl, rfl, Nat.le_refl _, fun _ _ _ => rfl⟩
theorem grN_trans {a b c : World} {r : Option Nat} (h : a.grownBy b r) (k : b.grownBy c r) : a.grownBy c r :=
  ⟨k.os.trans h.os, k.tape.trans h.tape, k.output.trans h.output, Nat.le_trans h.size k.size, fun i hi hr => (k.block i (Nat.lt_of_lt_of_le hi h.size) hr).trans (h.block i hi hr)⟩
theorem grN_below {w w' : World} {r : Option Nat} (h : Below w.heap.size w w') : w.grownBy w' r := ⟨h.os, h.tape, h.output, h.size, fun k hk _ => h.block k hk⟩
theorem grN_set (w : World) (g j : Nat) (v : Value) : w.grownBy (w.setCell ⟨g, j, none⟩ v) (some g) :=
  ⟨rfl, rfl, rfl, by simp [World.setCell], fun k _ hr => hp_setN _ _ _ _ _ (fun e => hr (by rw [e]))⟩
theorem cell_gr {w w' : World} {G g k : Nat} {v : Value} (h : w.grownBy w' (some G)) (hne : g ≠ G) (hc : w.cell? ⟨g, k, none⟩ = some v) : w'.cell? ⟨g, k, none⟩ = some v := by
  have hlt : g < w.heap.size := World.block_lt_of_cell? _ _ hc
  rw [← hc]
  unfold World.cell?
  rw [show (⟨g, k, none⟩ : Addr).block = g from rfl, h.block g hlt (by intro e; exact hne (Option.some.inj e))]
/-- The lists of a node that was made, in blocks beside G. -/
structure Md (G B : Nat) (w : World) (n : Nd) (g1 g2 g3 : Nat) : Prop where
  n1 : G < g1
  n2 : G < g2
  n3 : G < g3
  t1 : Tx B w (some ⟨g1, 0, none⟩) n.names
  t2 : Tx B w (some ⟨g2, 0, none⟩) n.keys
  t3 : Ints B w (some ⟨g3, 0, none⟩) n.kids
theorem Md.gr {G B : Nat} {w w' : World} {n : Nd} {g1 g2 g3 : Nat} (h : Md G B w n g1 g2 g3) (hg : w.grownBy w' (some G)) : Md G B w' n g1 g2 g3 := by
  have h1 := h.n1
  have h2 := h.n2
  have h3 := h.n3
  refine ⟨h1, h2, h3, ?_, ?_, ?_⟩
  · intro k hk
    obtain ⟨a, e, ha, hc⟩ := h.t1 k hk
    cases e
    rw [add_off] at hc
    exact ⟨_, rfl, ha, by rw [add_off]; exact cell_gr hg (by omega) hc⟩
  · intro k hk
    obtain ⟨a, e, ha, hc⟩ := h.t2 k hk
    cases e
    rw [add_off] at hc
    exact ⟨_, rfl, ha, by rw [add_off]; exact cell_gr hg (by omega) hc⟩
  · intro k hk
    obtain ⟨a, e, ha, hc⟩ := h.t3 k hk
    cases e
    rw [add_off] at hc
    exact ⟨_, rfl, ha, by rw [add_off]; exact cell_gr hg (by omega) hc⟩
theorem Md.mono {G B B' : Nat} {w : World} {n : Nd} {g1 g2 g3 : Nat} (h : Md G B w n g1 g2 g3) (hB : B ≤ B') : Md G B' w n g1 g2 g3 :=
  ⟨h.n1, h.n2, h.n3, h.t1.mono hB, h.t2.mono hB, h.t3.mono hB⟩
def vN (n : Nd) (g1 : Nat) : Value := .slice (some ⟨g1, 0, none⟩) n.names.length n.names.length
def vK (n : Nd) (g2 : Nat) : Value := .slice (some ⟨g2, 0, none⟩) n.keys.length n.keys.length
def vD (n : Nd) (g3 : Nat) : Value := .slice (some ⟨g3, 0, none⟩) n.kids.length n.kids.length
/-- A node's cells in a row. -/
structure L7 (f : Nat → Value) (j : Nat) (n : Nd) (vn vk vd : Value) : Prop where
  c0 : f (j * 7) = .int .i64 n.kind
  c1 : f (j * 7 + 1) = .int .i64 n.num
  c2 : f (j * 7 + 2) = .int .i64 n.mat
  c3 : f (j * 7 + 3) = .string n.text
  c4 : f (j * 7 + 4) = vn
  c5 : f (j * 7 + 5) = vk
  c6 : f (j * 7 + 6) = vd
def set7 (w : World) (g k : Nat) (n : Nd) (vn vk vd : Value) : World :=
  ((((((w.setCell ⟨g, k * 7, none⟩ (.int .i64 n.kind)).setCell ⟨g, k * 7 + 1, none⟩ (.int .i64 n.num)).setCell ⟨g, k * 7 + 2, none⟩ (.int .i64 n.mat)).setCell ⟨g, k * 7 + 3, none⟩ (.string n.text)).setCell ⟨g, k * 7 + 4, none⟩ vn).setCell ⟨g, k * 7 + 5, none⟩ vk).setCell ⟨g, k * 7 + 6, none⟩ vd
theorem row7 {w : World} {g t N : Nat} {f : Nat → Value} (h : w.rowIs g t N f) (k : Nat) (n : Nd) (vn vk vd : Value) :
    ∃ f', (set7 w g k n vn vk vd).rowIs g t N f' ∧ L7 f' k n vn vk vd ∧ ∀ j m un uk ud, j ≠ k → L7 f j m un uk ud → L7 f' j m un uk ud := by
  refine ⟨_, ((((((h.set _ _).set _ _).set _ _).set _ _).set _ _).set _ _).set _ _, ?_, ?_⟩
  · constructor <;> simp
  · intro j m un uk ud hj hl
    obtain ⟨c0, c1, c2, c3, c4, c5, c6⟩ := hl
    constructor <;> rw [if_neg (by omega), if_neg (by omega), if_neg (by omega), if_neg (by omega), if_neg (by omega), if_neg (by omega), if_neg (by omega)] <;> assumption
theorem gr7 (w : World) (g k : Nat) (n : Nd) (vn vk vd : Value) : w.grownBy (set7 w g k n vn vk vd) (some g) :=
  grN_trans (grN_trans (grN_trans (grN_trans (grN_trans (grN_trans (grN_set _ _ _ _) (grN_set _ _ _ _)) (grN_set _ _ _ _)) (grN_set _ _ _ _)) (grN_set _ _ _ _)) (grN_set _ _ _ _)) (grN_set _ _ _ _)
theorem Try.infoN : (Try.prog.info? 37).map (fun i => (i.zero, i.size, i.bytes)) = some (some (.agg #[.int .i64 0, .int .i64 0, .int .i64 0, .string ⟨#[]⟩, .slice none 0 0, .slice none 0 0, .slice none 0 0]), 7, 112) := by kernel_rfl
end Go.Proofs.Ytopbokfloapbeaa
