
/- The walk of the program's scanner: all tokens. -/
import Derived.Test.YtacmhofekdjobaaGreatDoorTokenG
import Derived.Laws.OwnMore
namespace Go.Proofs.YtacmhofekdjobaaGreatDoor
open Go.RowKit Go.Lib
variable {R : List Value × TypeId}
structure Tk where
  kind : Nat
  text : ByteArray
  at_ : Nat
def cellsT (T : List Tk) : List Value := T.flatMap fun t => [.int .i64 t.kind, .string t.text, .int .i64 t.at_]
set_option maxRecDepth 20000 in
theorem cellsT_len (T : List Tk) : (cellsT T).length = T.length * 3 := by
  induction T with
  | nil => rfl
  | cons f r ih => simp [cellsT, List.flatMap_cons] at ih ⊢; omega
set_option maxRecDepth 20000 in
theorem cellsT_app (F G : List Tk) : cellsT (F ++ G) = cellsT F ++ cellsT G := by simp [cellsT]
set_option maxRecDepth 20000 in
theorem cellsT_get (T : List Tk) (j : Nat) (h : j < T.length) : (cellsT T)[j * 3]? = some (.int .i64 T[j].kind) ∧ (cellsT T)[j * 3 + 1]? = some (.string T[j].text) ∧ (cellsT T)[j * 3 + 2]? = some (.int .i64 T[j].at_) := by
  induction T generalizing j with
  | nil => simp at h
  | cons f r ih =>
    cases j with
    | zero => simp [cellsT]
    | succ j =>
      have := ih j (by simpa using h)
      rw [show (j + 1) * 3 = j * 3 + 1 + 1 + 1 by omega]
      simpa [cellsT] using this
/-- The slice v, whose array is among the blocks from B on, holds just the tokens T. -/
def OwnT (B : Nat) (v : Value) (T : List Tk) (w : World) : Prop := w.ownsRow B 70 3 v T.length (cellsT T)
set_option maxRecDepth 20000 in
theorem OwnT.nil (B : Nat) (w : World) : OwnT B (.slice none 0 0) [] w := World.ownsRow_nil _ _ _ _
set_option maxRecDepth 20000 in
theorem OwnT.form {B : Nat} {v : Value} {F : List Tk} {w : World} (h : OwnT B v F w) : (v = .slice none 0 0 ∧ F = []) ∨ ∃ g cap, v = .slice (some ⟨g, 0, none⟩) F.length cap := by
  rcases h.2 with ⟨rfl, h0⟩ | ⟨g, cap, cur, rfl, -⟩
  · exact .inl ⟨rfl, List.length_eq_zero_iff.1 h0⟩
  · exact .inr ⟨g, cap, rfl⟩
set_option maxRecDepth 20000 in
theorem OwnT.gr {B g : Nat} {v : Value} {p : List Tk} {w w' : World} (h : OwnT B v p w) (hg : w.grownBy w' (some g)) (hB : g < B) : OwnT B v p w' := by
  obtain ⟨h1, h2⟩ := h
  refine ⟨h1, ?_⟩
  rcases h2 with h2 | ⟨k, cap, cur, e1, e2, e3, e4⟩
  · exact .inl h2
  · refine .inr ⟨k, cap, cur, e1, e2, ?_, e4⟩
    rw [hg.block k (hp_lt e3) (by intro e; have := Option.some.inj e; omega)]
    exact e3
set_option maxRecDepth 20000 in
theorem OwnT.cell {B g cap n : Nat} {p : List Tk} {w : World} (h : OwnT B (.slice (some ⟨g, 0, none⟩) n cap) p w) (j : Nat) (hj : j < p.length) :
    w.cell? ⟨g, j * 3, none⟩ = some (.int .i64 p[j].kind) ∧ w.cell? ⟨g, j * 3 + 1, none⟩ = some (.string p[j].text) := by
  obtain ⟨h0, h1, -⟩ := cellsT_get p j hj
  have e0 := World.ownsRow.cells h (g := g) rfl (j * 3) _ h0
  have e1 := World.ownsRow.cells h (g := g) rfl (j * 3 + 1) _ h1
  rw [add_off] at e0 e1
  exact ⟨e0, e1⟩
set_option maxRecDepth 20000 in
/-- An append of one token. -/
theorem wp_appT {P : Program} {W w : World} {ops : Array Oper} {rest : List Oper} {o : Oper} {a : Act} {Q : Exit → Act → World → Prop} (hgd : o.guard = none) (s x : Operand) (t : TypeId)
    (ho : o.op = .call { callee := .builtin .append, args := #[s, x], argTypes := #[t, t] })
    (i : TypeInfo) (ht : P.underlying t = some (.slice 70)) (hi : P.info? 70 = some i) (hz : i.zero = some (.agg #[.int .i64 0, .string ⟨#[]⟩, .int .i64 0])) (hsize : i.size = 3) (hby : i.bytes = 32)
    (B : Nat) (v : Value) (F : List Tk) (hs : a.eval s = v) (hown : OwnT B v F w) (f : Tk) (cs : Array Value) (hcs : cs = #[.int .i64 f.kind, .string f.text, .int .i64 f.at_])
    (c : Nat) (hx : a.eval x = .slice (some ⟨w.heap.size, 0, none⟩) 1 c) (hlen : F.length ≤ 1000000) (hB : B ≤ W.heap.size) (hb : Below B W w)
    (h : ∀ v' w', OwnT B v' (F ++ [f]) w' → Below B W w' → wpList P ops Q rest (a.put o.dst v') w') : wpList P ops Q (o :: rest) a (w.alloc (.cells cs 70)) := by
  subst hcs
  have hsz := hb.size
  refine wpList_append_own _ hgd s x t ho B 70 i _ 3 32 ht hi hz hsize hby rfl (by decide) v F.length (cellsT F) hs (hown.alloc _) ⟨w.heap.size, 0, none⟩ 1 c [.int .i64 f.kind, .string f.text, .int .i64 f.at_] hx
    rfl ?_ ?_ (by unfold maxLen; omega) (by omega) (by simp; omega) ?_
  · intro j u hj
    rw [add_off]
    match j, hj with
    | 0, hj => simp at hj; subst hj; simp
    | 1, hj => simp at hj; subst hj; simp
    | 2, hj => simp at hj; subst hj; simp
  · intro u hu
    simp at hu
    rcases hu with rfl | rfl | rfl <;> rfl
  · intro v' w' h1 h2 _
    refine h v' w' ?_ ?_
    · unfold OwnT
      rw [cellsT_app, List.length_append]
      exact h1
    · exact (hb.alloc (by omega) _).grown h2 (by simp; omega) (fun k hk => (World.ownsRow.lt hown k hk).1)
set_option maxRecDepth 20000 in
theorem Tryz.infoT : (Tryz.prog.info? 70).map (fun i => (i.zero, i.size, i.bytes)) = some (some (.agg #[.int .i64 0, .string ⟨#[]⟩, .int .i64 0]), 3, 32) := by kernel_rfl
/-- What a token's scan from a place on finds: none, or a token and the place behind it. -/
inductive Step (s : ByteArray) (a : Nat) : Option (Tk × Nat) → Prop
  | fin (h : Pl.stop Pl.blank s.data.toList a = s.size) : Step s a none
  | atom (z : Nat) (h : Pl.stop Pl.blank s.data.toList a = z) (hz : z < s.size) (ha : Pl.atom s[z] = true) : Step s a (some (⟨1, s.extract z (Pl.stop Pl.atom s.data.toList z), z⟩, Pl.stop Pl.atom s.data.toList z))
  | spec (z : Nat) (h : Pl.stop Pl.blank s.data.toList a = z) (hz : z < s.size) (hc : s[z] = 44 ∨ s[z] = 58) : Step s a (some (⟨5, s.extract z (z + 1), z⟩, z + 1))
def tkV (t : Tk) : Value := .agg #[.int .i64 t.kind, .string t.text, .int .i64 t.at_]
set_option maxRecDepth 20000 in
theorem scTokNone (g : Nat) (s : ByteArray) (a b : Nat) (w : World) (hs : s.size ≤ 100000) (hcl : Clean s) (ha : a ≤ s.size) (h : Sc R w g s a b) (hst : Step s a none) :
    Calls Tryz.prog 24 #[scp g] w fun e w' => e = .returned (.tuple #[.agg #[.int .i64 0, .string ⟨#[]⟩, .int .i64 0], .bool false]) ∧ (∃ b', Sc R w' g s s.size b') ∧ w.grownBy w' (some g) := by
  cases hst with
  | fin hz => exact (scTokEnd g s a b w hs hcl ha h hz).mono fun e w' ⟨h1, h2, h3⟩ => ⟨h1, ⟨b, h2⟩, h3⟩
set_option maxRecDepth 20000 in
theorem scTokSome (g : Nat) (s : ByteArray) (a b a' : Nat) (t : Tk) (w : World) (hs : s.size ≤ 100000) (hcl : Clean s) (ha : a ≤ s.size) (h : Sc R w g s a b) (hst : Step s a (some (t, a'))) :
    Calls Tryz.prog 24 #[scp g] w fun e w' => e = .returned (.tuple #[tkV t, .bool true]) ∧ (∃ b', Sc R w' g s a' b') ∧ w.grownBy w' (some g) := by
  cases hst with
  | atom z hz hzs hat => exact (scTokAtom g s a b z w hs hcl ha h hz hzs hat).mono fun e w' ⟨h1, h2, h3⟩ => ⟨h1, ⟨z, h2⟩, h3⟩
  | spec z hz hzs hc => exact (scTokSpecial g s a b z w hs hcl ha h hz hzs hc).mono fun e w' ⟨h1, h2, h3⟩ => ⟨h1, ⟨z, h2⟩, h3⟩
/-- All tokens from a place on. -/
inductive Toks (s : ByteArray) : Nat → List Tk → Prop
  | nil (a : Nat) (h : Step s a none) : Toks s a []
  | cons (a a' : Nat) (t : Tk) (T : List Tk) (h : Step s a (some (t, a'))) (hlt : a < a') (hle : a' ≤ s.size) (hT : Toks s a' T) : Toks s a (t :: T)
set_option maxRecDepth 20000 in
theorem entersTok : ∀ (args : Array Value) (w : World), (callFunc 24 args).run Tryz.prog w = .ok (.enter 24 args) w := Go.Proofs.enters_of Tryz.func24 (by kernel_rfl) rfl
set_option maxRecDepth 20000 in
set_option maxHeartbeats 4000000 in
theorem scTokens (g : Nat) (s : ByteArray) (T : List Tk) (b : Nat) (w : World) (hs : s.size ≤ 4000) (hcl : Clean s) (h : Sc R w g s 0 b) (hT : Toks s 0 T) :
    Calls Tryz.prog 46 #[scp g, .func (.func 24) #[scp g] #[]] w fun e w' => ∃ v, e = .returned v ∧ OwnT w.heap.size v T w' ∧ (∃ a' b', Sc R w' g s a' b') ∧ w.grownBy w' (some g) := by
  obtain ⟨i0, hi, hy0, hy1, hy2⟩ := info_parts Tryz.infoT
  have hE := entersTok
  have hgB := h.lt
  have Hsc := (show Hid _ from h)
  have HT := (show Hid _ from hT)
  clear h hT
  go_enter Tryz.func46, Tryz.ntmps46
  go_wp2
  go_loopw [5, 6] (fun v tm wr => ∃ (cur beg : Nat) (p r : List Tk), tm = .int .i64 (-1) ∧ p.length ≤ cur ∧ cur ≤ s.size ∧ Hid (p ++ r = T) ∧ Hid (Toks s cur r) ∧ Hid (Sc R wr g s cur beg) ∧ Hid (OwnT w.heap.size v p wr) ∧ Hid (w.grownBy wr (some g))) (fun _ _ wr => s.size - atOf wr g)
  case atStart => exact ⟨0, b, [], T, rfl, by simp, Nat.zero_le _, rfl, HT, Hsc, OwnT.nil _ _, grown_refl _ _⟩
  case round =>
    clear HT Hsc
    obtain ⟨cur, beg, p, r, rfl, hpc, hcs, HP, HTk, Hsc, Hown, Hgr⟩ := hrel
    have hat : Hid (atOf wr g = cur) := Hsc.out.at
    cases r with
    | nil =>
      have hst : Step s cur none := by
        cases HTk.out with
        | nil _ h => exact h
      have hC := scTokNone g s cur beg wr (by omega) hcl hcs Hsc.out hst
      have HpT : Hid (p = T) := by show _ = _; rw [← HP.out, List.append_nil]
      clear HTk HP hst
      go_wp2_with fail
      refine hC.mono ?_
      rintro e w1 ⟨rfl, ⟨b', s1⟩, g1⟩
      have S1 := (show Hid _ from s1)
      have O1 : Hid (OwnT w.heap.size u5 p w1) := Hown.out.gr g1 hgB
      have G1 : Hid (w.grownBy w1 (some g)) := grown_trans Hgr.out g1
      clear hC g1 Hown Hgr Hsc s1
      have hbA : ∀ ob, Below w1.heap.size w1 (w1.alloc ob) := fun ob => (Below.refl _ _).alloc (Nat.le_refl _) _
      go_wp2
      go_ret
      refine ⟨_, rfl, ?_, ⟨_, _, S1.out.below (hbA _)⟩, grown_trans G1.out (grown_below (hbA _))⟩
      rw [← HpT.out]
      exact O1.out.gr (grown_below (hbA _)) hgB
    | cons tk r =>
      obtain ⟨a', hst, hlt, hle, hTr⟩ : ∃ a', Step s cur (some (tk, a')) ∧ cur < a' ∧ a' ≤ s.size ∧ Toks s a' r := by
        cases HTk.out with
        | cons _ a' _ _ h h1 h2 h3 => exact ⟨a', h, h1, h2, h3⟩
      have hC := scTokSome g s cur beg a' tk wr (by omega) hcl hcs Hsc.out hst
      have HP2 : Hid ((p ++ [tk]) ++ r = T) := by show _ = _; rw [← HP.out]; simp
      have HTr := (show Hid _ from hTr)
      clear HTk HP hst hTr
      go_wp2_with fail
      refine hC.mono ?_
      rintro e w1 ⟨rfl, ⟨b', s1⟩, g1⟩
      have O1 : Hid (OwnT w.heap.size u5 p w1) := Hown.out.gr g1 hgB
      have G1 : Hid (w.grownBy w1 (some g)) := grown_trans Hgr.out g1
      have S1 := (show Hid _ from s1)
      have hgl1 := s1.lt
      clear hC g1 Hown Hgr Hsc s1
      obtain ⟨tk0, tx, ta⟩ := tk
      have hV : tkV ⟨tk0, tx, ta⟩ = .agg #[.int .i64 tk0, .string tx, .int .i64 ta] := rfl
      rw [hV]
      have hbA : Below w1.heap.size w1 (w1.alloc (.cells #[.int .i64 tk0, .string tx, .int .i64 ta] 70)) := (Below.refl _ _).alloc (Nat.le_refl _) _
      have O2 : OwnT w.heap.size u5 p (w1.alloc (.cells #[.int .i64 tk0, .string tx, .int .i64 ta] 70)) := O1.out.gr (grown_below hbA) hgB
      have S2 := (show Hid _ from S1.out.below hbA)
      have G2 := (show Hid _ from grown_trans G1.out (grown_below hbA))
      have hsz2 : w.heap.size ≤ (w1.alloc (.cells #[.int .i64 tk0, .string tx, .int .i64 ta] 70)).heap.size := G2.out.size
      clear O1 S1 G1 hV
      have hlen5 : (p.length : Int) < 5000 := by omega
      rcases O2.form with ⟨rfl, hp0⟩ | ⟨gv, cv, rfl⟩
      · subst hp0
        go_wp2_with (at_builtin; go_must (refine wp_appT (W := w1.alloc (.cells #[.int .i64 tk0, .string tx, .int .i64 ta] 70)) rfl _ _ 45 rfl i0 Tryz.underlying45 hi hy0 hy1 hy2 w.heap.size (.slice none 0 0) [] rfl O2 ⟨tk0, tx, ta⟩ _ rfl 1 (by show Value.slice (some ⟨w1.heap.size + 1, 0, none⟩) 1 1 = _; simp) (by first | omega | (simp; done)) hsz2 (Below.refl _ _) ?_; intro v' w' hown' hb'))
        have S3 : Sc R w' g s a' b' := ⟨by rw [hb'.block g hgB]; exact S2.out.blk⟩
        have G3 : w.grownBy w' (some g) := ⟨hb'.os.trans G2.out.os, hb'.tape.trans G2.out.tape, hb'.output.trans G2.out.output, Nat.le_trans G2.out.size hb'.size, fun i hi hr => (hb'.block i hi).trans (G2.out.block i hi hr)⟩
        go_roundw
        case rel => exact ⟨a', b', _, r, rfl, by simp; omega, hle, HP2, HTr, S3, hown', G3⟩
        case measure => rw [S3.at, hat.out]; omega
      · skip
        go_wp2_with (at_builtin; go_must (refine wp_appT (W := w1.alloc (.cells #[.int .i64 tk0, .string tx, .int .i64 ta] 70)) rfl _ _ 45 rfl i0 Tryz.underlying45 hi hy0 hy1 hy2 w.heap.size (.slice (some ⟨gv, 0, none⟩) p.length cv) p rfl O2 ⟨tk0, tx, ta⟩ _ rfl 1 (by show Value.slice (some ⟨w1.heap.size + 1, 0, none⟩) 1 1 = _; simp) (by first | omega | (simp; done)) hsz2 (Below.refl _ _) ?_; intro v' w' hown' hb'))
        have S3 : Sc R w' g s a' b' := ⟨by rw [hb'.block g hgB]; exact S2.out.blk⟩
        have G3 : w.grownBy w' (some g) := ⟨hb'.os.trans G2.out.os, hb'.tape.trans G2.out.tape, hb'.output.trans G2.out.output, Nat.le_trans G2.out.size hb'.size, fun i hi hr => (hb'.block i hi).trans (G2.out.block i hi hr)⟩
        go_roundw
        case rel => exact ⟨a', b', _, r, rfl, by simp; omega, hle, HP2, HTr, S3, hown', G3⟩
        case measure => rw [S3.at, hat.out]; omega
end Go.Proofs.YtacmhofekdjobaaGreatDoor
