/- The walk of the digits behind what is there. -/
import Derived.Test.YtgbhckokdjhpjaaDoorB64Group
import Derived.Lib.LazyBuf
import Derived.Laws.OwnMore
import Derived.Deep.RegionWith
namespace Go.Proofs.YtgbhckokdjhpjaaDoor
open Go.RowKit Go.Lib
theorem Own.stored {B g cap : Nat} {p : List UInt8} {w : World} (h : Own B (.slice (some ⟨g, 0, none⟩) p.length cap) p w) (j : Nat) (c : UInt8) :
    Own B (.slice (some ⟨g, 0, none⟩) p.length cap) (p.set j c) (w.setCell ⟨g, j, none⟩ (.int .u8 (c.toNat : Int))) := by
  have := (World.ownsRow.stored h j (.int .u8 (c.toNat : Int))).1
  unfold Own
  rw [List.length_set, byteCells, List.map_set]
  exact this
theorem Own.overlaid {B g cap : Nat} : ∀ (new old q : List UInt8) (w : World), old.length = new.length → Own B (.slice (some ⟨g, 0, none⟩) (q ++ old).length cap) (q ++ old) w →
    Own B (.slice (some ⟨g, 0, none⟩) (q ++ old).length cap) (q ++ new) (w.setCells g q.length (byteCells new)) := by
  intro new
  induction new with
  | nil => intro old q w hl h; have : old = [] := List.length_eq_zero_iff.1 (by simpa using hl); subst this; exact h
  | cons c r ih =>
    intro old q w hl h
    match old, hl with
    | o :: old', hl =>
      have h1 := h.stored q.length c
      have e : (q ++ o :: old').set q.length c = (q ++ [c]) ++ old' := by simp
      have el : (q ++ o :: old').length = ((q ++ [c]) ++ old').length := by simp
      rw [e, el] at h1
      have h2 := ih old' (q ++ [c]) _ (by simpa using hl) h1
      rw [el]
      have e2 : (q ++ [c]) ++ r = q ++ c :: r := by simp
      rw [e2] at h2
      have e3 : (q ++ [c]).length = q.length + 1 := by simp
      rw [e3] at h2
      exact h2
/-- A text laid over the last bytes, as the run of the operation. -/
theorem copy_over (W w : World) (B g cap n off dCap : Nat) (q old : List UInt8) (t : ByteArray) (hn : n = t.size) (hoff : off = q.length) (hl : old.length = t.size)
    (hown : Own B (.slice (some ⟨g, 0, none⟩) (q ++ old).length cap) (q ++ old) w) (hBg : B ≤ g) (hb : Below B W w) :
    ∃ W', (Builtin.copy_ #[27, 9] 3 #[.slice (some ⟨g, off, none⟩) n dCap, .string t]).run Tryd.prog w = .ok (goInt t.size) W' ∧ Own B (.slice (some ⟨g, 0, none⟩) (q ++ old).length cap) (q ++ t.data.toList) W' ∧ Below B W W' := by
  subst hn hoff
  have hts : t.data.toList.length = t.size := by simp
  exact ⟨_, run_copy_string (P := Tryd.prog) w 27 9 3 5 g q.length t.size dCap t Tryd.underlying27 (fun _ => by kernel_rfl) (Nat.le_refl _) (fun j hj => by
      have := hown.cell (q.length + j) (by simp; omega)
      rw [this]; rfl) (fun j hj => World.ownsRow.frozenAt hown _), hown.overlaid t.data.toList old q w (by omega), below_setCells hBg _ _ _ hb⟩
theorem Own.lies {B : Nat} {v : Value} {p : List UInt8} {w : World} (h : Own B v p w) (hp : 0 < p.length) : ∃ g cap, v = .slice (some ⟨g, 0, none⟩) p.length cap ∧ B ≤ g ∧ p.length ≤ cap := by
  rcases h.2 with ⟨rfl, h0⟩ | ⟨g, cap, cur, rfl, hB, -, hc, -⟩
  · omega
  · exact ⟨g, cap, rfl, hB, hc⟩
theorem Tab.on {B : Nat} {w w' : World} (h : Tab w) (hB0 : 0 < B) (hb : Below B w w') : Tab w' := fun j hj => (hb.cell (p := ⟨0, j, none⟩) hB0).trans (h j hj)
def strLen : Value → Nat
  | .string b => b.size
  | _ => 0
theorem strLen_mk (l : List UInt8) : strLen (.string ⟨l.toArray⟩) = l.length := by
  show l.toArray.size = l.length
  simp
set_option maxRecDepth 100000 in
set_option maxHeartbeats 2000000 in
theorem implAppend (B : Nat) (v : Value) (p l : List UInt8) (W w : World) (hown : Own B v p w) (hT : Tab W) (hB0 : 0 < B) (hBW : B ≤ W.heap.size) (hb : Below B W w) (hl : p.length + 2 * l.length ≤ 900000) :
    Calls Tryd.prog 21 #[v, .string ⟨l.toArray⟩] w fun e w' => ∃ v', e = .returned v' ∧ Own B v' (p ++ Pb.bare l) w' ∧ Below B W w' := by
  go_enter Tryd.func21, Tryd.ntmps21
  go_wp2
  go_loopw [0, 1] (fun u t wr => ∃ (r q : List UInt8), t = .string ⟨r.toArray⟩ ∧ q.length + 2 * r.length ≤ 900000 ∧ Hid (q ++ Pb.bare r = p ++ Pb.bare l) ∧ Own B u q wr ∧ Below B W wr) (fun _ t _ => strLen t)
  case atStart => exact ⟨l, p, rfl, hl, rfl, hown, hb⟩
  case round =>
    clear hown hb
    obtain ⟨r, q, rfl, hql, hq, hown, hb⟩ := hrel
    have hTr := hT.on hB0 hb
    match r, hql, hq with
    | a :: b :: c :: r', hql, hq =>
      have hst : Hid ((q ++ Pb.group a b c) ++ Pb.bare r' = p ++ Pb.bare l) := by
        have := hq.out
        rw [Pb.bare] at this
        rw [List.append_assoc]; exact this
      have hgr := fun W' (h1 : Own B u0 q W') (h2 : Tab W') (h3 : Below B W W') => implGroup B u0 q a b c W W' h1 h2 hB0 hBW h3 (by omega)
      have Hgr := mkHid hgr
      clear hq hgr
      go_wp2
      go_region_with (go_at_call 24; (refine (Hgr.out _ (by exact hown) (by exact hTr) (by exact hb.drew)).mono ?_; rintro e w2 ⟨v2, rfl, hown2, hb2⟩))
      all_goals
        have hx : (⟨(a :: b :: c :: r').toArray⟩ : ByteArray).extract 3 (r'.length + 1 + 1 + 1) = ⟨r'.toArray⟩ := by
          rw [Pb.ext_of, show List.drop 3 (a :: b :: c :: r') = r' from rfl, List.take_of_length_le (by omega)]
        have Hx := mkHid hx
        clear hx
        go_wp2
        rw [Hx.out]
        go_roundw
        case rel => exact ⟨r', _, rfl, by simp only [List.length_append, Pb.group, List.length_cons, List.length_nil] at hql ⊢; omega, hst, hown2, hb2⟩
        case measure => rw [strLen_mk, strLen_mk]; simp; omega
    | [a, b], hql, hq =>
      have hst : Hid (q ++ [Pb.d64 (a.toNat / 4), Pb.d64 (a.toNat % 4 * 16 + b.toNat / 16), Pb.d64 (b.toNat % 16 * 4), 61] = p ++ Pb.bare l) := hq
      have hgg : Hid (Pb.group a b 0 = [Pb.d64 (a.toNat / 4), Pb.d64 (a.toNat % 4 * 16 + b.toNat / 16), Pb.d64 (b.toNat % 16 * 4)] ++ [Pb.d64 0]) := rfl
      have hgr := fun W' (h1 : Own B u0 q W') (h2 : Tab W') (h3 : Below B W W') => implGroup B u0 q a b 0 W W' h1 h2 hB0 hBW h3 (by omega)
      have Hgr := mkHid hgr
      clear hq hgr
      go_wp2
      go_region_with (go_at_call 24; (refine (Hgr.out _ (by exact hown) (by exact hTr) (by exact hb.drew)).mono ?_; rintro e w2 ⟨v2, rfl, hown2, hb2⟩))
      all_goals
        rw [hgg.out, ← List.append_assoc] at hown2
        obtain ⟨g, cap, hv, hBg, hcap⟩ := hown2.lies (by simp)
        simp only [List.length_append, List.length_cons, List.length_nil, Nat.zero_add, Nat.add_assoc, Nat.reduceAdd] at hv hcap
        rw [hv] at hown2 ⊢
        clear hv
        obtain ⟨w3, hcopy, hown3, hb3⟩ := copy_over W w2 B g cap 1 (q.length + 3) (cap - (q.length + 3)) (q ++ [Pb.d64 (a.toNat / 4), Pb.d64 (a.toNat % 4 * 16 + b.toNat / 16), Pb.d64 (b.toNat % 16 * 4)]) [Pb.d64 0] ⟨#[61]⟩ rfl (by simp) rfl (by simpa using hown2) hBg hb2
        have Hown3 := mkHid hown3
        clear hown3
        go_wp2
        go_ret
        rw [← hst.out]
        exact ⟨_, rfl, by simpa using Hown3.out, hb3⟩
    | [a], hql, hq =>
      have hst : Hid (q ++ [Pb.d64 (a.toNat / 4), Pb.d64 (a.toNat % 4 * 16), 61, 61] = p ++ Pb.bare l) := hq
      have hgg : Hid (Pb.group a 0 0 = [Pb.d64 (a.toNat / 4), Pb.d64 (a.toNat % 4 * 16)] ++ [Pb.d64 0, Pb.d64 0]) := rfl
      have hgr := fun W' (h1 : Own B u0 q W') (h2 : Tab W') (h3 : Below B W W') => implGroup B u0 q a 0 0 W W' h1 h2 hB0 hBW h3 (by omega)
      have Hgr := mkHid hgr
      clear hq hgr
      go_wp2_with fail
      refine (Hgr.out _ hown hTr hb).mono ?_
      rintro e w2 ⟨v2, rfl, hown2, hb2⟩
      rw [hgg.out, ← List.append_assoc] at hown2
      obtain ⟨g, cap, hv, hBg, hcap⟩ := hown2.lies (by simp)
      simp only [List.length_append, List.length_cons, List.length_nil, Nat.zero_add, Nat.add_assoc, Nat.reduceAdd] at hv hcap
      rw [hv] at hown2 ⊢
      clear hv
      obtain ⟨w3, hcopy, hown3, hb3⟩ := copy_over W w2 B g cap 2 (q.length + 2) (cap - (q.length + 2)) (q ++ [Pb.d64 (a.toNat / 4), Pb.d64 (a.toNat % 4 * 16)]) [Pb.d64 0, Pb.d64 0] ⟨#[61, 61]⟩ rfl (by simp) rfl (by simpa using hown2) hBg hb2
      have Hown3 := mkHid hown3
      clear hown3
      go_wp2
      go_ret
      rw [← hst.out]
      exact ⟨_, rfl, by simpa using Hown3.out, hb3⟩
    | [], hql, hq =>
      have hst : Hid (q = p ++ Pb.bare l) := by rw [show Pb.bare [] = [] from rfl, List.append_nil] at hq; exact hq
      go_wp2
      go_ret
      rw [← hst.out]
      exact ⟨_, rfl, hown, hb⟩
end Go.Proofs.YtgbhckokdjhpjaaDoor
