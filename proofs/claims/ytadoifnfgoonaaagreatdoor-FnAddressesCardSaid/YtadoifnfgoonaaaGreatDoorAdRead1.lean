
/- The walk of the program's scanner: all tokens. -/

/- The walk of a reader of tokens: all tokens of a text, where no fault is met. -/

/- The walks of a reader of tokens: the next token, looked at or taken. -/
import Derived.Test.YtadoifnfgoonaaaGreatDoorTokSaid
import Derived.Laws.OwnMore
import Derived.Defers
import Derived.Recover
import Derived.Laws.Pointers
namespace Go.Proofs.YtadoifnfgoonaaaGreatDoor
open Go.RowKit Go.Lib
variable {R : List Value × TypeId}
structure Tk where
  kind : Nat
  text : ByteArray
  at_ : Nat
def cellsT (T : List Tk) : List Value := T.flatMap fun t => [.int .i64 t.kind, .string t.text, .int .i64 t.at_]
set_option maxRecDepth 20000 in
theorem cellsT_len (T : List Tk) : (cellsT T).length = T.length * 3 := by
  induction T with
  | nil => rfl
  | cons f r ih => simp [cellsT, List.flatMap_cons] at ih ⊢; omega
set_option maxRecDepth 20000 in
theorem cellsT_app (F G : List Tk) : cellsT (F ++ G) = cellsT F ++ cellsT G := by simp [cellsT]
set_option maxRecDepth 20000 in
theorem cellsT_get (T : List Tk) (j : Nat) (h : j < T.length) : (cellsT T)[j * 3]? = some (.int .i64 T[j].kind) ∧ (cellsT T)[j * 3 + 1]? = some (.string T[j].text) ∧ (cellsT T)[j * 3 + 2]? = some (.int .i64 T[j].at_) := by
  induction T generalizing j with
  | nil => simp at h
  | cons f r ih =>
    cases j with
    | zero => simp [cellsT]
    | succ j =>
      have := ih j (by simpa using h)
      rw [show (j + 1) * 3 = j * 3 + 1 + 1 + 1 by omega]
      simpa [cellsT] using this
/-- The slice v, whose array is among the blocks from B on, holds just the tokens T. -/
def OwnT (B : Nat) (v : Value) (T : List Tk) (w : World) : Prop := w.ownsRow B 107 3 v T.length (cellsT T)
set_option maxRecDepth 20000 in
theorem OwnT.nil (B : Nat) (w : World) : OwnT B (.slice none 0 0) [] w := World.ownsRow_nil _ _ _ _
set_option maxRecDepth 20000 in
theorem OwnT.form {B : Nat} {v : Value} {F : List Tk} {w : World} (h : OwnT B v F w) : (v = .slice none 0 0 ∧ F = []) ∨ ∃ g cap, v = .slice (some ⟨g, 0, none⟩) F.length cap := by
  rcases h.2 with ⟨rfl, h0⟩ | ⟨g, cap, cur, rfl, -⟩
  · exact .inl ⟨rfl, List.length_eq_zero_iff.1 h0⟩
  · exact .inr ⟨g, cap, rfl⟩
set_option maxRecDepth 20000 in
theorem OwnT.gr {B g : Nat} {v : Value} {p : List Tk} {w w' : World} (h : OwnT B v p w) (hg : w.grownBy w' (some g)) (hB : g < B) : OwnT B v p w' := by
  obtain ⟨h1, h2⟩ := h
  refine ⟨h1, ?_⟩
  rcases h2 with h2 | ⟨k, cap, cur, e1, e2, e3, e4⟩
  · exact .inl h2
  · refine .inr ⟨k, cap, cur, e1, e2, ?_, e4⟩
    rw [hg.block k (hp_lt e3) (by intro e; have := Option.some.inj e; omega)]
    exact e3
set_option maxRecDepth 20000 in
theorem OwnT.cell {B g cap n : Nat} {p : List Tk} {w : World} (h : OwnT B (.slice (some ⟨g, 0, none⟩) n cap) p w) (j : Nat) (hj : j < p.length) :
    w.cell? ⟨g, j * 3, none⟩ = some (.int .i64 p[j].kind) ∧ w.cell? ⟨g, j * 3 + 1, none⟩ = some (.string p[j].text) := by
  obtain ⟨h0, h1, -⟩ := cellsT_get p j hj
  have e0 := World.ownsRow.cells h (g := g) rfl (j * 3) _ h0
  have e1 := World.ownsRow.cells h (g := g) rfl (j * 3 + 1) _ h1
  rw [add_off] at e0 e1
  exact ⟨e0, e1⟩
set_option maxRecDepth 20000 in
/-- An append of one token. -/
theorem wp_appT {P : Program} {W w : World} {ops : Array Oper} {rest : List Oper} {o : Oper} {a : Act} {Q : Exit → Act → World → Prop} (hgd : o.guard = none) (s x : Operand) (t : TypeId)
    (ho : o.op = .call { callee := .builtin .append, args := #[s, x], argTypes := #[t, t] })
    (i : TypeInfo) (ht : P.underlying t = some (.slice 107)) (hi : P.info? 107 = some i) (hz : i.zero = some (.agg #[.int .i64 0, .string ⟨#[]⟩, .int .i64 0])) (hsize : i.size = 3) (hby : i.bytes = 32)
    (B : Nat) (v : Value) (F : List Tk) (hs : a.eval s = v) (hown : OwnT B v F w) (f : Tk) (cs : Array Value) (hcs : cs = #[.int .i64 f.kind, .string f.text, .int .i64 f.at_])
    (c : Nat) (hx : a.eval x = .slice (some ⟨w.heap.size, 0, none⟩) 1 c) (hlen : F.length ≤ 1000000) (hB : B ≤ W.heap.size) (hb : Below B W w)
    (h : ∀ v' w', OwnT B v' (F ++ [f]) w' → Below B W w' → wpList P ops Q rest (a.put o.dst v') w') : wpList P ops Q (o :: rest) a (w.alloc (.cells cs 107)) := by
  subst hcs
  have hsz := hb.size
  refine wpList_append_own _ hgd s x t ho B 107 i _ 3 32 ht hi hz hsize hby rfl (by decide) v F.length (cellsT F) hs (hown.alloc _) ⟨w.heap.size, 0, none⟩ 1 c [.int .i64 f.kind, .string f.text, .int .i64 f.at_] hx
    rfl ?_ ?_ (by unfold maxLen; omega) (by omega) (by simp; omega) ?_
  · intro j u hj
    rw [add_off]
    match j, hj with
    | 0, hj => simp at hj; subst hj; simp
    | 1, hj => simp at hj; subst hj; simp
    | 2, hj => simp at hj; subst hj; simp
  · intro u hu
    simp at hu
    rcases hu with rfl | rfl | rfl <;> rfl
  · intro v' w' h1 h2 _
    refine h v' w' ?_ ?_
    · unfold OwnT
      rw [cellsT_app, List.length_append]
      exact h1
    · exact (hb.alloc (by omega) _).grown h2 (by simp; omega) (fun k hk => (World.ownsRow.lt hown k hk).1)
set_option maxRecDepth 20000 in
theorem Tryz.infoT : (Tryz.prog.info? 107).map (fun i => (i.zero, i.size, i.bytes)) = some (some (.agg #[.int .i64 0, .string ⟨#[]⟩, .int .i64 0]), 3, 32) := by kernel_rfl
/-- What a token's scan from a place on finds: none, or a token and the place behind it. -/
inductive Step (s : ByteArray) (a : Nat) : Option (Tk × Nat) → Prop
  | fin (h : Pl.stop Pl.blank s.data.toList a = s.size) : Step s a none
  | atom (z : Nat) (h : Pl.stop Pl.blank s.data.toList a = z) (hz : z < s.size) (ha : Pl.atom s[z] = true) : Step s a (some (⟨1, s.extract z (Pl.stop Pl.atom s.data.toList z), z⟩, Pl.stop Pl.atom s.data.toList z))
  | spec (z : Nat) (h : Pl.stop Pl.blank s.data.toList a = z) (hz : z < s.size) (hc : spB s[z] = true) : Step s a (some (⟨5, s.extract z (z + 1), z⟩, z + 1))
  | quot (z : Nat) (X G L : List UInt8) (h : Pl.stop Pl.blank s.data.toList a = z) (hz : z < s.size) (h34 : s[z] = 34) (hX : Sd 34 X L) (hL : s.data.toList.drop (z + 1) = X ++ 34 :: G) : Step s a (some (⟨2, ⟨L.toArray⟩, z⟩, s.size - G.length))
  | lit (z : Nat) (X G L : List UInt8) (h : Pl.stop Pl.blank s.data.toList a = z) (hz : z < s.size) (h91 : s[z] = 91) (hX : Sd 93 X L) (hL : s.data.toList.drop (z + 1) = X ++ 93 :: G) : Step s a (some (⟨3, ⟨L.toArray⟩, z⟩, s.size - G.length))
def tkV (t : Tk) : Value := .agg #[.int .i64 t.kind, .string t.text, .int .i64 t.at_]
set_option maxRecDepth 20000 in
theorem scTokNone (g : Nat) (s : ByteArray) (a b : Nat) (w : World) (hs : s.size ≤ 100000) (hcl : Clean s) (ha : a ≤ s.size) (h : Sc R w g s a b) (hst : Step s a none) :
    Calls Tryz.prog 50 #[scp g] w fun e w' => e = .returned (.tuple #[.agg #[.int .i64 0, .string ⟨#[]⟩, .int .i64 0], .bool false]) ∧ (∃ b', Sc R w' g s s.size b') ∧ w.grownBy w' (some g) := by
  cases hst with
  | fin hz => exact (scTokEnd g s a b w hs hcl ha h hz).mono fun e w' ⟨h1, h2, h3⟩ => ⟨h1, ⟨b, h2⟩, h3⟩
set_option maxRecDepth 20000 in
theorem scTokSome (g : Nat) (s : ByteArray) (a b a' : Nat) (t : Tk) (w : World) (hs : s.size ≤ 100000) (hcl : Clean s) (ha : a ≤ s.size) (h : Sc R w g s a b) (hst : Step s a (some (t, a'))) :
    Calls Tryz.prog 50 #[scp g] w fun e w' => e = .returned (.tuple #[tkV t, .bool true]) ∧ (∃ b', Sc R w' g s a' b') ∧ w.grownBy w' (some g) := by
  cases hst with
  | atom z hz hzs hat => exact (scTokAtom g s a b z w hs hcl ha h hz hzs hat).mono fun e w' ⟨h1, h2, h3⟩ => ⟨h1, ⟨z, h2⟩, h3⟩
  | spec z hz hzs hc => exact (scTokSpecial g s a b z w hs hcl ha h hz hzs hc).mono fun e w' ⟨h1, h2, h3⟩ => ⟨h1, ⟨z, h2⟩, h3⟩
  | quot z X G L hz hzs h34 hX hL => exact (scTokQuoted X G g s a b z L w hs hcl ha h hz hzs h34 hX hL).mono fun e w' ⟨h1, h2, h3⟩ => ⟨h1, ⟨z, h2⟩, h3⟩
  | lit z X G L hz hzs h91 hX hL => exact (scTokLit X G g s a b z L w hs hcl ha h hz hzs h91 hX hL).mono fun e w' ⟨h1, h2, h3⟩ => ⟨h1, ⟨z, h2⟩, h3⟩
/-- All tokens from a place on. -/
inductive Toks (s : ByteArray) : Nat → List Tk → Prop
  | nil (a : Nat) (h : Step s a none) : Toks s a []
  | cons (a a' : Nat) (t : Tk) (T : List Tk) (h : Step s a (some (t, a'))) (hlt : a < a') (hle : a' ≤ s.size) (hT : Toks s a' T) : Toks s a (t :: T)
set_option maxRecDepth 20000 in
theorem entersTok : ∀ (args : Array Value) (w : World), (callFunc 50 args).run Tryz.prog w = .ok (.enter 50 args) w := Go.Proofs.enters_of Tryz.func50 (by kernel_rfl) rfl
set_option maxRecDepth 20000 in
set_option maxHeartbeats 4000000 in
theorem scTokens (g : Nat) (s : ByteArray) (T : List Tk) (b : Nat) (w : World) (hs : s.size ≤ 4000) (hcl : Clean s) (h : Sc R w g s 0 b) (hT : Toks s 0 T) :
    Calls Tryz.prog 72 #[scp g, .func (.func 50) #[scp g] #[]] w fun e w' => ∃ v, e = .returned v ∧ OwnT w.heap.size v T w' ∧ (∃ a' b', Sc R w' g s a' b') ∧ w.grownBy w' (some g) := by
  obtain ⟨i0, hi, hy0, hy1, hy2⟩ := info_parts Tryz.infoT
  have hE := entersTok
  have hgB := h.lt
  have Hsc := (show Hid _ from h)
  have HT := (show Hid _ from hT)
  clear h hT
  go_enter Tryz.func72, Tryz.ntmps72
  go_wp2
  go_loopw [5, 6] (fun v tm wr => ∃ (cur beg : Nat) (p r : List Tk), tm = .int .i64 (-1) ∧ p.length ≤ cur ∧ cur ≤ s.size ∧ Hid (p ++ r = T) ∧ Hid (Toks s cur r) ∧ Hid (Sc R wr g s cur beg) ∧ Hid (OwnT w.heap.size v p wr) ∧ Hid (w.grownBy wr (some g))) (fun _ _ wr => s.size - atOf wr g)
  case atStart => exact ⟨0, b, [], T, rfl, by simp, Nat.zero_le _, rfl, HT, Hsc, OwnT.nil _ _, grown_refl _ _⟩
  case round =>
    clear HT Hsc
    obtain ⟨cur, beg, p, r, rfl, hpc, hcs, HP, HTk, Hsc, Hown, Hgr⟩ := hrel
    have hat : Hid (atOf wr g = cur) := Hsc.out.at
    cases r with
    | nil =>
      have hst : Step s cur none := by
        cases HTk.out with
        | nil _ h => exact h
      have hC := scTokNone g s cur beg wr (by omega) hcl hcs Hsc.out hst
      have HpT : Hid (p = T) := by show _ = _; rw [← HP.out, List.append_nil]
      clear HTk HP hst
      go_wp2_with fail
      refine hC.mono ?_
      rintro e w1 ⟨rfl, ⟨b', s1⟩, g1⟩
      have S1 := (show Hid _ from s1)
      have O1 : Hid (OwnT w.heap.size u5 p w1) := Hown.out.gr g1 hgB
      have G1 : Hid (w.grownBy w1 (some g)) := grown_trans Hgr.out g1
      clear hC g1 Hown Hgr Hsc s1
      have hbA : ∀ ob, Below w1.heap.size w1 (w1.alloc ob) := fun ob => (Below.refl _ _).alloc (Nat.le_refl _) _
      go_wp2
      go_ret
      refine ⟨_, rfl, ?_, ⟨_, _, S1.out.below (hbA _)⟩, grown_trans G1.out (grown_below (hbA _))⟩
      rw [← HpT.out]
      exact O1.out.gr (grown_below (hbA _)) hgB
    | cons tk r =>
      obtain ⟨a', hst, hlt, hle, hTr⟩ : ∃ a', Step s cur (some (tk, a')) ∧ cur < a' ∧ a' ≤ s.size ∧ Toks s a' r := by
        cases HTk.out with
        | cons _ a' _ _ h h1 h2 h3 => exact ⟨a', h, h1, h2, h3⟩
      have hC := scTokSome g s cur beg a' tk wr (by omega) hcl hcs Hsc.out hst
      have HP2 : Hid ((p ++ [tk]) ++ r = T) := by show _ = _; rw [← HP.out]; simp
      have HTr := (show Hid _ from hTr)
      clear HTk HP hst hTr
      go_wp2_with fail
      refine hC.mono ?_
      rintro e w1 ⟨rfl, ⟨b', s1⟩, g1⟩
      have O1 : Hid (OwnT w.heap.size u5 p w1) := Hown.out.gr g1 hgB
      have G1 : Hid (w.grownBy w1 (some g)) := grown_trans Hgr.out g1
      have S1 := (show Hid _ from s1)
      have hgl1 := s1.lt
      clear hC g1 Hown Hgr Hsc s1
      obtain ⟨tk0, tx, ta⟩ := tk
      have hV : tkV ⟨tk0, tx, ta⟩ = .agg #[.int .i64 tk0, .string tx, .int .i64 ta] := rfl
      rw [hV]
      have hbA : Below w1.heap.size w1 (w1.alloc (.cells #[.int .i64 tk0, .string tx, .int .i64 ta] 107)) := (Below.refl _ _).alloc (Nat.le_refl _) _
      have O2 : OwnT w.heap.size u5 p (w1.alloc (.cells #[.int .i64 tk0, .string tx, .int .i64 ta] 107)) := O1.out.gr (grown_below hbA) hgB
      have S2 := (show Hid _ from S1.out.below hbA)
      have G2 := (show Hid _ from grown_trans G1.out (grown_below hbA))
      have hsz2 : w.heap.size ≤ (w1.alloc (.cells #[.int .i64 tk0, .string tx, .int .i64 ta] 107)).heap.size := G2.out.size
      clear O1 S1 G1 hV
      have hlen5 : (p.length : Int) < 5000 := by omega
      rcases O2.form with ⟨rfl, hp0⟩ | ⟨gv, cv, rfl⟩
      · subst hp0
        go_wp2_with (at_builtin; go_must (refine wp_appT (W := w1.alloc (.cells #[.int .i64 tk0, .string tx, .int .i64 ta] 107)) rfl _ _ 54 rfl i0 Tryz.underlying54 hi hy0 hy1 hy2 w.heap.size (.slice none 0 0) [] rfl O2 ⟨tk0, tx, ta⟩ _ rfl 1 (by show Value.slice (some ⟨w1.heap.size + 1, 0, none⟩) 1 1 = _; simp) (by first | omega | (simp; done)) hsz2 (Below.refl _ _) ?_; intro v' w' hown' hb'))
        have S3 : Sc R w' g s a' b' := ⟨by rw [hb'.block g hgB]; exact S2.out.blk⟩
        have G3 : w.grownBy w' (some g) := ⟨hb'.os.trans G2.out.os, hb'.tape.trans G2.out.tape, hb'.output.trans G2.out.output, Nat.le_trans G2.out.size hb'.size, fun i hi hr => (hb'.block i hi).trans (G2.out.block i hi hr)⟩
        go_roundw
        case rel => exact ⟨a', b', _, r, rfl, by simp; omega, hle, HP2, HTr, S3, hown', G3⟩
        case measure => rw [S3.at, hat.out]; omega
      · skip
        go_wp2_with (at_builtin; go_must (refine wp_appT (W := w1.alloc (.cells #[.int .i64 tk0, .string tx, .int .i64 ta] 107)) rfl _ _ 54 rfl i0 Tryz.underlying54 hi hy0 hy1 hy2 w.heap.size (.slice (some ⟨gv, 0, none⟩) p.length cv) p rfl O2 ⟨tk0, tx, ta⟩ _ rfl 1 (by show Value.slice (some ⟨w1.heap.size + 1, 0, none⟩) 1 1 = _; simp) (by first | omega | (simp; done)) hsz2 (Below.refl _ _) ?_; intro v' w' hown' hb'))
        have S3 : Sc R w' g s a' b' := ⟨by rw [hb'.block g hgB]; exact S2.out.blk⟩
        have G3 : w.grownBy w' (some g) := ⟨hb'.os.trans G2.out.os, hb'.tape.trans G2.out.tape, hb'.output.trans G2.out.output, Nat.le_trans G2.out.size hb'.size, fun i hi hr => (hb'.block i hi).trans (G2.out.block i hi hr)⟩
        go_roundw
        case rel => exact ⟨a', b', _, r, rfl, by simp; omega, hle, HP2, HTr, S3, hown', G3⟩
        case measure => rw [S3.at, hat.out]; omega
end Go.Proofs.YtadoifnfgoonaaaGreatDoor
namespace Go.Proofs.YtadoifnfgoonaaaGreatDoor
open Go.RowKit Go.Lib
set_option maxRecDepth 20000 in
theorem alloc_last (w : World) (o : Obj) : (w.alloc o).heap[w.heap.size]? = some o := by simp only [World.alloc, Array.getElem?_push_size]
set_option maxRecDepth 20000 in
theorem OwnT.base {B B' : Nat} {v : Value} {F : List Tk} {w : World} (h : OwnT B v F w) (hB : B' ≤ B) : OwnT B' v F w := by
  obtain ⟨h1, h2⟩ := h
  refine ⟨h1, ?_⟩
  rcases h2 with h2 | ⟨k, cap, cur, e, hk, r⟩
  · exact .inl h2
  · exact .inr ⟨k, cap, cur, e, by omega, r⟩
set_option maxRecDepth 20000 in
theorem OwnT.shape {B : Nat} {v : Value} {F : List Tk} {w : World} (h : OwnT B v F w) : ∃ o cap, v = .slice o F.length cap := by
  rcases h.form with ⟨rfl, rfl⟩ | ⟨g, cap, rfl⟩
  · exact ⟨none, 0, rfl⟩
  · exact ⟨_, _, rfl⟩
set_option maxRecDepth 20000 in
set_option maxHeartbeats 1000000 in
theorem faultNo (w : World) :
    Calls Tryz.prog 71 #[.nilIface] w fun e w' => e = .returned (.tuple #[.agg #[.int .i64 0, .int .i64 0], .bool false]) ∧ Below w.heap.size w w' := by
  have hta : ∀ w : World, (Instr.typeAssert .nilIface 20 64 true).run Tryz.prog w = .ok (.tuple #[.agg #[.int .i64 0, .int .i64 0], .bool false]) w := fun w => by kernel_rfl
  go_enter Tryz.func71, Tryz.ntmps71
  go_wp2
  refine bodyPost_ret (v := .tuple #[.agg #[.int .i64 0, .int .i64 0], .bool false]) (by simp [results, Tryz.results71, go_sem]) rfl ⟨rfl, ?_⟩
  exact ((Below.refl _ _).alloc (Nat.le_refl _) _).alloc (by simp) _
set_option maxRecDepth 20000 in
set_option maxHeartbeats 1000000 in
theorem catchNoS (p : Nat) (w : World) :
    CallsD Tryz.prog 70 #[.pointer (some ⟨p, 0, none⟩)] .returning w fun e u' w' => e = .returned (.tuple #[]) ∧ u' = .returning ∧ Below w.heap.size w w' := by
  refine callsD_of_wpS Tryz.func70 rfl fun c₀ cs hu => ?_
  apply wpS_seq
  apply wpS_region
  simp [wpOpsS, go_sem, recoverD, hu, Tryz.ntmps70, Exit.thenS]
  refine (faultNo w).mono ?_
  rintro e w1 ⟨rfl, hb1⟩
  simp [go_sem, Array.replicate]
  refine wpS_of_wp ?_
  go_wp2
  refine ⟨rfl, .returning, ?_, .tuple #[], by simp [results, Tryz.results70, go_sem], rfl, rfl, hb1.alloc hb1.size _⟩
  cases c₀
  simp_all
/-- A reader of a date in memory: its text, its tokens, how many are taken, whether it is ill. -/
structure Dr (w : World) (g : Nat) (s : ByteArray) (v : Value) (n : Nat) (ill : Nat) : Prop where
  ex : ∃ a b : Nat, w.heap[g]? = some (.cells #[.string s, .int .i64 a, .int .i64 b, v, .int .i64 n, .int .i64 (ill : Int)] 58)
set_option maxRecDepth 20000 in
set_option maxHeartbeats 4000000 in
theorem implScan (g : Nat) (s : ByteArray) (T : List Tk) (w : World) (hs : s.size ≤ 4000) (hcl : Clean s) (hT : Toks s 0 T) (h : w.heap[g]? = some (.cells #[.string s, .int .i64 0, .int .i64 0, .slice none 0 0, .int .i64 0, .int .i64 0] 58)) :
    Calls Tryz.prog 49 #[scp g, .func (.func 50) #[scp g] #[]] w fun e w' => e = .returned .nilIface ∧ ∃ v, OwnT w.heap.size v T w' ∧ Dr w' g s v 0 0 ∧ w.grownBy w' (some g) := by
  have hmf : ∀ (fn : Fn) (first cap : Array Value) (w : World), (Instr.makeFunc fn first cap).run Tryz.prog w = .ok (.func fn first cap) w := fun _ _ _ _ => rfl
  have hgl := hp_lt h
  obtain ⟨W, hW⟩ : ∃ W, W = w.alloc (.cells #[.nilIface] 60) := ⟨_, rfl⟩
  have hbW : Below w.heap.size w W := by rw [hW]; exact (Below.refl _ _).alloc (Nat.le_refl _) _
  have hWs : W.heap.size = w.heap.size + 1 := by rw [hW]; simp
  have hp : W.heap[w.heap.size]? = some (.cells #[.nilIface] 60) := by rw [hW]; exact alloc_last w _
  have hsc : Sc ([.slice none 0 0, .int .i64 0, .int .i64 0], 58) W g s 0 0 := ⟨(hbW.block g hgl).trans h⟩
  have HF := (show Hid _ from scTokens g s T 0 W hs hcl hsc hT)
  clear hsc hT h
  go_enter_defers Tryz.func49, Tryz.ntmps49
  go_wp2_with fail
  rw [← hW]
  refine Calls.mono HF.out ?_
  rintro e w3 ⟨v, rfl, hown, ⟨a', b', hsc⟩, g3⟩
  clear HF
  have hp3 : w3.heap[w.heap.size]? = some (.cells #[.nilIface] 60 (0, 0)) := (g3.block w.heap.size (by omega) (by intro e; have := Option.some.inj e; omega)).trans hp
  have hB := hsc.blk
  have hne : w.heap.size ≠ g := by omega
  obtain ⟨o, cap, rfl⟩ := hown.shape
  have c3 : w3.cell? ⟨g, 3, none⟩ = some (.slice none 0 0) := by simp [World.cell?, hB]
  have f3 : w3.frozen? ⟨g, 3, none⟩ = false := by simp [World.frozen?, hB]
  have cp : w3.cell? ⟨w.heap.size, 0, none⟩ = some .nilIface := by simp [World.cell?, hp3]
  have fp : w3.frozen? ⟨w.heap.size, 0, none⟩ = false := by simp [World.frozen?, hp3]
  obtain ⟨X, hX⟩ : ∃ X, X = (w3.setCell ⟨g, 3, none⟩ (.slice o T.length cap)).setCell ⟨w.heap.size, 0, none⟩ .nilIface := ⟨_, rfl⟩
  have dX : Dr X g s (.slice o T.length cap) 0 0 := ⟨a', b', by rw [hX]; simp [World.setCell, Array.getElem?_modify, hB, hne]⟩
  have pX : X.cell? ⟨w.heap.size, 0, none⟩ = some .nilIface := by rw [hX]; simp [World.cell?, World.setCell, Array.getElem?_modify, hp3, Ne.symm hne]
  have gX : w.grownBy X (some g) := by
    rw [hX]
    refine ⟨g3.os.trans hbW.os, g3.tape.trans hbW.tape, g3.output.trans hbW.output, by have := g3.size; simp [World.setCell]; omega, fun i hi hr => ?_⟩
    rw [← hbW.block i hi, ← g3.block i (by omega) hr]
    simp [World.setCell, Array.getElem?_modify, show w.heap.size ≠ i by omega, show g ≠ i from fun e => hr (by rw [e])]
  have oX : OwnT w.heap.size (.slice o T.length cap) T X := by
    rw [hX]
    have o1 := hown.gr (grown_set w3 g 3 (.slice o T.length cap)) (by omega)
    exact (o1.gr (grown_set _ w.heap.size 0 .nilIface) (by omega)).base (by omega)
  have HX := (show Hid (Dr X g s (.slice o T.length cap) 0 0 ∧ w.grownBy X (some g) ∧ OwnT w.heap.size (.slice o T.length cap) T X) from ⟨dX, gX, oX⟩)
  clear hB dX gX oX hown hsc g3 hp3 hp hbW hW
  go_wp2_with fail
  rw [← hX]
  refine leaves_cons (f := 70) (args := #[.pointer (some ⟨w.heap.size, 0, none⟩)]) (by simp) (by simp [go_sem]) ?_
  refine (catchNoS w.heap.size _).mono ?_
  rintro e u' w'' ⟨rfl, rfl, hb⟩
  obtain ⟨dX, gX, oX⟩ := HX.out
  have q0 := (hb.cell (World.block_lt_of_cell? _ _ pX)).trans pX
  have K := (show Hid (∃ v, OwnT w.heap.size v T w'' ∧ Dr w'' g s v 0 0 ∧ w.grownBy w'' (some g)) from ⟨_, oX.gr (grown_below (r := some g) hb) hgl, by
    obtain ⟨a, b, h⟩ := dX.ex
    exact ⟨a, b, (hb.block g (hp_lt h)).trans h⟩, grown_trans gX (grown_below hb)⟩)
  clear HX dX gX oX hb c3 f3 cp fp pX hX
  simp [Leaves, settle, results, Tryz.results49, go_sem, q0]
  exact K.out
end Go.Proofs.YtadoifnfgoonaaaGreatDoor
namespace Go.Proofs.YtadoifnfgoonaaaGreatDoor
open Go.RowKit Go.Lib
set_option maxRecDepth 20000 in
theorem OwnT.cell3 {B g cap n : Nat} {p : List Tk} {w : World} (h : OwnT B (.slice (some ⟨g, 0, none⟩) n cap) p w) (j : Nat) (hj : j < p.length) :
    w.cell? ⟨g, j * 3, none⟩ = some (.int .i64 p[j].kind) ∧ w.cell? ⟨g, j * 3 + 1, none⟩ = some (.string p[j].text) ∧ w.cell? ⟨g, j * 3 + 2, none⟩ = some (.int .i64 p[j].at_) := by
  obtain ⟨h0, h1, h2⟩ := cellsT_get p j hj
  have e0 := World.ownsRow.cells h (g := g) rfl (j * 3) _ h0
  have e1 := World.ownsRow.cells h (g := g) rfl (j * 3 + 1) _ h1
  have e2 := World.ownsRow.cells h (g := g) rfl (j * 3 + 2) _ h2
  rw [add_off] at e0 e1 e2
  exact ⟨e0, e1, e2⟩
/-- A reader of the tokens T, of which n are taken. -/
structure Rd (B : Nat) (T : List Tk) (g : Nat) (s : ByteArray) (q : Nat × Nat) (n : Nat) (ill : Nat) (w : World) : Prop where
  dr : Dr w g s (.slice (some ⟨q.1, 0, none⟩) T.length q.2) n ill
  own : OwnT B (.slice (some ⟨q.1, 0, none⟩) T.length q.2) T w
  lt : g < B
set_option maxRecDepth 20000 in
theorem Dr.lt {w : World} {g : Nat} {s : ByteArray} {v : Value} {n : Nat} {ill : Nat} (h : Dr w g s v n ill) : g < w.heap.size := by
  obtain ⟨a, b, h⟩ := h.ex
  exact hp_lt h
set_option maxRecDepth 20000 in
theorem Dr.below {w w' : World} {g : Nat} {s : ByteArray} {v : Value} {n : Nat} {ill : Nat} (h : Dr w g s v n ill) (hb : Below w.heap.size w w') : Dr w' g s v n ill := by
  have hl := h.lt
  obtain ⟨a, b, h⟩ := h.ex
  exact ⟨a, b, (hb.block g hl).trans h⟩
set_option maxRecDepth 20000 in
theorem Rd.glt {B g n : Nat} {T : List Tk} {s : ByteArray} {q : Nat × Nat} {ill : Nat} {w : World} (h : Rd B T g s q n ill w) : g < w.heap.size := by
  exact h.dr.lt
set_option maxRecDepth 20000 in
theorem Rd.below {B g n : Nat} {T : List Tk} {s : ByteArray} {q : Nat × Nat} {ill : Nat} {w w' : World} (h : Rd B T g s q n ill w) (hb : Below w.heap.size w w') : Rd B T g s q n ill w' := by
  obtain ⟨h1, h2, hl⟩ := h
  exact ⟨h1.below hb, h2.gr (grown_below (r := some g) hb) hl, hl⟩
set_option maxRecDepth 20000 in
theorem Rd.setN {B g n : Nat} {T : List Tk} {s : ByteArray} {q : Nat × Nat} {ill : Nat} {w : World} (h : Rd B T g s q n ill w) (m : Nat) (k : Int) (hk : k = m) : Rd B T g s q m ill (w.setCell ⟨g, 4, none⟩ (.int .i64 k)) := by
  subst hk
  obtain ⟨h1, h2, hl⟩ := h
  obtain ⟨a, b, h1⟩ := h1.ex
  exact ⟨⟨a, b, by simp [World.setCell, Array.getElem?_modify, h1]⟩, h2.gr (grown_set w g 4 _) hl, hl⟩
set_option maxRecDepth 20000 in
theorem Rd.setBoxes {B g n : Nat} {T : List Tk} {s : ByteArray} {q : Nat × Nat} {ill : Nat} {w : World} (h : Rd B T g s q n ill w) (b' : Nat) (k : Int) (hk : k = b') : Rd B T g s q n b' (w.setCell ⟨g, 5, none⟩ (.int .i64 k)) := by
  subst hk
  obtain ⟨h1, h2, hl⟩ := h
  obtain ⟨a, b, h1⟩ := h1.ex
  exact ⟨⟨a, b, by simp [World.setCell, Array.getElem?_modify, h1]⟩, h2.gr (grown_set w g 5 _) hl, hl⟩
set_option maxRecDepth 20000 in
theorem Dr.cells {w : World} {g : Nat} {s : ByteArray} {v : Value} {n : Nat} {ill : Nat} (h : Dr w g s v n ill) :
    w.cell? ⟨g, 0, none⟩ = some (.string s) ∧ w.cell? ⟨g, 3, none⟩ = some v ∧ w.cell? ⟨g, 4, none⟩ = some (.int .i64 n) ∧ w.cell? ⟨g, 5, none⟩ = some (.int .i64 (ill : Int)) ∧ (∀ j, w.frozen? ⟨g, j, none⟩ = false) := by
  obtain ⟨a, b, h⟩ := h.ex
  refine ⟨?_, ?_, ?_, ?_, fun j => ?_⟩ <;> simp [World.cell?, World.frozen?, h]
set_option maxRecDepth 20000 in
set_option maxHeartbeats 4000000 in
theorem rdPast {m : Nat} (B g n : Nat) (T : List Tk) (s : ByteArray) (q : Nat × Nat) (ill : Nat) (w : World) (h : Rd B T g s q m ill w) (_hl : T.length ≤ 4000) (hn : n ≤ T.length) (hk : ∀ t ∈ T, t.kind ≠ 4) :
    Calls Tryz.prog 105 #[scp g, .int .i64 n] w fun e w' => e = .returned (.int .i64 n) ∧ w' = w := by
  obtain ⟨h1, h2, -⟩ := h
  obtain ⟨gv, cap⟩ := q
  dsimp only at h1 h2
  obtain ⟨-, c3, -, -, -⟩ := h1.cells
  clear h1
  go_enter Tryz.func105, Tryz.ntmps105
  go_wp2
  go_loopw [1] (fun v wr => v = .int .i64 n ∧ wr = w) (fun _ _ => 0)
  case atStart => exact ⟨rfl, rfl⟩
  case round =>
    obtain ⟨rfl, rfl⟩ := hrel
    by_cases hlt : n < T.length
    · obtain ⟨k0, -, -⟩ := h2.cell3 n hlt
      have hne : (T[n].kind == 4) = false := by simpa using hk _ (List.getElem_mem hlt)
      have f1 : (n : Int) < (T.length : Int) := by omega
      generalize T[n].kind = kd at *
      go_wp2
      go_ret
      exact ⟨rfl, rfl⟩
    · have f1 : ¬ (n : Int) < (T.length : Int) := by omega
      go_wp2
      go_ret
      exact ⟨rfl, rfl⟩
/-- The token that comes next, and the end behind them all. -/
structure Nx (T : List Tk) (s : ByteArray) (n : Nat) (t : Tk) : Prop where
  or : (n < T.length ∧ T[n]? = some t ∧ t.kind ≠ 0) ∨ (n = T.length ∧ t = ⟨0, ⟨#[]⟩, s.size⟩)
set_option maxRecDepth 20000 in
theorem Nx.le {T : List Tk} {s : ByteArray} {n : Nat} {t : Tk} (h : Nx T s n t) : n ≤ T.length := by
  rcases h.or with h | h <;> omega
set_option maxRecDepth 20000 in
theorem token_cells {w : World} {g : Nat} {a : Int} {t : ByteArray} {b : Int} (h : w.heap[g]? = some (.cells #[.int .i64 a, .string t, .int .i64 b] 107 (0, 0))) :
    w.cell? ⟨g, 0, none⟩ = some (.int .i64 a) ∧ w.cell? ⟨g, 1, none⟩ = some (.string t) ∧ w.cell? ⟨g, 2, none⟩ = some (.int .i64 b) := tok_cells h
set_option maxRecDepth 20000 in
theorem below_setRow {w W : World} {k : Nat} {cs : Array Value} (hb : Below k w W) (_hk : k ≤ k) (b : Nat) (hbk : k ≤ b) : Below k w (W.setRow b cs) :=
  ⟨hb.os, hb.tape, hb.output, by simpa using hb.size, fun i hi => (setRow_other W b i _ (by omega)).trans (hb.block i hi)⟩
set_option maxRecDepth 20000 in
set_option maxHeartbeats 4000000 in
theorem rdTokenAt {m : Nat} (B g n : Nat) (T : List Tk) (s : ByteArray) (q : Nat × Nat) (ill : Nat) (t : Tk) (w : World) (h : Rd B T g s q m ill w) (_hl : T.length ≤ 4000) (_hs : s.size ≤ 4000) (ht : Nx T s n t) :
    Calls Tryz.prog 104 #[scp g, .int .i64 n] w fun e w' => e = .returned (tkV t) ∧ Below w.heap.size w w' := by
  obtain ⟨W, hW⟩ : ∃ W, W = w.alloc (.cells #[.int .i64 0, .string ⟨#[]⟩, .int .i64 0] 107) := ⟨_, rfl⟩
  have hbW : Below w.heap.size w W := by rw [hW]; exact (Below.refl _ _).alloc (Nat.le_refl _) _
  have hr0 : W.heap[w.heap.size]? = some (.cells #[.int .i64 0, .string ⟨#[]⟩, .int .i64 0] 107 (0, 0)) := by rw [hW]; exact hp_alloc w _
  have h' := h.below hbW
  obtain ⟨h1, h2, -⟩ := h'
  obtain ⟨gv, cap⟩ := q
  dsimp only at h1 h2
  obtain ⟨c0, c3, -, -, -⟩ := h1.cells
  clear h h1
  obtain ⟨tk, tx, ta⟩ := t
  rcases ht.or with ⟨hlt, hg, -⟩ | ⟨hn, hg⟩
  · obtain ⟨k0, k1, k2⟩ := h2.cell3 n hlt
    have f1 : ((n : Int) == (T.length : Int)) = false := by simp; omega
    have f2 : (n : Int) < (T.length : Int) := by omega
    rw [List.getElem?_eq_getElem hlt] at hg
    have hg := Option.some.inj hg
    rw [hg] at k0 k1 k2
    clear h2 hg ht
    subst hW
    go_enter Tryz.func104, Tryz.ntmps104
    go_wp2_with fail
    refine bodyPost_ret (v := .agg #[.int .i64 tk, .string tx, .int .i64 ta]) (by simp [results, Tryz.results104, go_sem]) rfl ?_
    exact ⟨rfl, (Below.refl _ _).alloc (Nat.le_refl _) _⟩
  · have f1 : ((n : Int) == (T.length : Int)) = true := by simp; omega
    obtain ⟨rfl, rfl, rfl⟩ := Tk.mk.inj hg
    clear h2 hg ht
    subst hW
    go_enter Tryz.func104, Tryz.ntmps104
    go_wp2_with fail
    refine bodyPost_ret (v := .agg #[.int .i64 0, .string ⟨#[]⟩, .int .i64 (s.size : Int)]) (by simp [results, Tryz.results104, go_sem]) rfl ?_
    exact ⟨rfl, (Below.refl _ _).alloc (Nat.le_refl _) _⟩
set_option maxRecDepth 20000 in
set_option maxHeartbeats 4000000 in
theorem rdPeek (B g n : Nat) (T : List Tk) (s : ByteArray) (q : Nat × Nat) (ill : Nat) (t : Tk) (w : World) (h : Rd B T g s q n ill w) (hl : T.length ≤ 4000) (hs : s.size ≤ 4000) (hk : ∀ t ∈ T, t.kind ≠ 4) (ht : Nx T s n t) :
    Calls Tryz.prog 82 #[scp g] w fun e w' => e = .returned (tkV t) ∧ Below w.heap.size w w' := by
  obtain ⟨W, hW⟩ : ∃ W, W = w.alloc (.cells #[.int .i64 0, .string ⟨#[]⟩, .int .i64 0] 107) := ⟨_, rfl⟩
  have hbW : Below w.heap.size w W := by rw [hW]; exact (Below.refl _ _).alloc (Nat.le_refl _) _
  have hr0 : W.heap[w.heap.size]? = some (.cells #[.int .i64 0, .string ⟨#[]⟩, .int .i64 0] 107 (0, 0)) := by rw [hW]; exact hp_alloc w _
  have h' := h.below hbW
  have hP := rdPast B g n T s q ill W h' hl ht.le hk
  have hA := rdTokenAt B g n T s q ill t W h' hl hs ht
  obtain ⟨h1, -, -⟩ := h'
  obtain ⟨-, -, c4, -, -⟩ := h1.cells
  rw [hW] at c4
  clear h h1 ht
  obtain ⟨tk, tx, ta⟩ := t
  go_enter Tryz.func82, Tryz.ntmps82
  go_wp2_with fail
  rw [← hW]
  clear hW c4
  refine hP.mono ?_
  rintro e w1 ⟨rfl, rfl⟩
  clear hP
  go_wp2_with fail
  refine hA.mono ?_
  rintro e w2 ⟨rfl, hb2⟩
  clear hA
  have hr2 := (hb2.block _ (hp_lt hr0)).trans hr0
  have hB2 : Below w.heap.size w w2 := hbW.trans (hb2.mono hbW.size)
  have hV : tkV ⟨tk, tx, ta⟩ = .agg #[.int .i64 tk, .string tx, .int .i64 ta] := rfl
  rw [hV]
  have HB := (show Hid _ from hB2)
  clear hr0 hb2 hbW hB2
  go_wp2_with (first | (refine wpL_store_row rfl 107 _ _ rfl w.heap.size #[.int .i64 tk, .string tx, .int .i64 ta] rfl rfl 107 _ hr2 (by kernel_rfl) rfl (by simp [Value.oneCell']) ?_) | go_in)
  have hh : (w2.setRow w.heap.size #[.int .i64 tk, .string tx, .int .i64 ta]).heap[w.heap.size]? = some (.cells #[.int .i64 tk, .string tx, .int .i64 ta] 107 (0, 0)) := setRow_heap _ _ _ _ _ _ hr2
  have hG : Below w.heap.size w (w2.setRow w.heap.size #[.int .i64 tk, .string tx, .int .i64 ta]) := below_setRow HB.out (Nat.le_refl _) _ (Nat.le_refl _)
  generalize w2.setRow w.heap.size #[.int .i64 tk, .string tx, .int .i64 ta] = V at hh hG
  obtain ⟨d0, d1, d2⟩ := tok_cells hh
  refine bodyPost_ret (v := .agg #[.int .i64 tk, .string tx, .int .i64 ta]) (by simp [results, Tryz.results82, go_sem, d0, d1, d2]) rfl ?_
  exact ⟨rfl, hG⟩
set_option maxRecDepth 20000 in
set_option maxHeartbeats 4000000 in
theorem rdTake (B g n : Nat) (T : List Tk) (s : ByteArray) (q : Nat × Nat) (ill : Nat) (t : Tk) (w : World) (h : Rd B T g s q n ill w) (hl : T.length ≤ 4000) (hs : s.size ≤ 4000) (hk : ∀ t ∈ T, t.kind ≠ 4) (hn : T[n]? = some t) (h0 : t.kind ≠ 0) :
    Calls Tryz.prog 83 #[scp g] w fun e w' => e = .returned (tkV t) ∧ Rd B T g s q (n + 1) ill w' ∧ w.grownBy w' (some g) := by
  have hlt : n < T.length := by
    by_cases hc : n < T.length
    · exact hc
    · rw [List.getElem?_eq_none (by omega)] at hn; cases hn
  have ht : Nx T s n t := ⟨.inl ⟨hlt, hn, h0⟩⟩
  obtain ⟨W, hW⟩ : ∃ W, W = w.alloc (.cells #[.int .i64 0, .string ⟨#[]⟩, .int .i64 0] 107) := ⟨_, rfl⟩
  have hbW : Below w.heap.size w W := by rw [hW]; exact (Below.refl _ _).alloc (Nat.le_refl _) _
  have hr0 : W.heap[w.heap.size]? = some (.cells #[.int .i64 0, .string ⟨#[]⟩, .int .i64 0] 107 (0, 0)) := by rw [hW]; exact hp_alloc w _
  have h' := h.below hbW
  have hgl := h.glt
  have hA := rdPeek B g n T s q ill t W h' hl hs hk ht
  have HO := (show Hid _ from h)
  have HP := (show Hid _ from fun (w : World) h => rdPast (m := n) B g n T s q ill w h hl (by omega) hk)
  clear h ht hn
  obtain ⟨tk, tx, ta⟩ := t
  have hk0 : (tk == 0) = false := by simpa using h0
  go_enter Tryz.func83, Tryz.ntmps83
  go_wp2_with fail
  rw [← hW]
  refine hA.mono ?_
  rintro e w2 ⟨rfl, hb2⟩
  clear hA
  have hr2 := (hb2.block _ (hp_lt hr0)).trans hr0
  have hB2 : Below w.heap.size w w2 := hbW.trans (hb2.mono hbW.size)
  have h2 := h'.below hb2
  have hV : tkV ⟨tk, tx, ta⟩ = .agg #[.int .i64 tk, .string tx, .int .i64 ta] := rfl
  rw [hV]
  clear hr0 hb2 hbW hW h'
  obtain ⟨X, hX⟩ : ∃ X, X = w2.alloc (.cells #[.int .i64 tk, .string tx, .int .i64 ta] 107) := ⟨_, rfl⟩
  have hbX : Below w2.heap.size w2 X := by rw [hX]; exact (Below.refl _ _).alloc (Nat.le_refl _) _
  have hx0 : X.heap[w2.heap.size]? = some (.cells #[.int .i64 tk, .string tx, .int .i64 ta] 107 (0, 0)) := by rw [hX]; exact hp_alloc w2 _
  have hrX := (hbX.block _ (hp_lt hr2)).trans hr2
  have hw2 : w.heap.size < w2.heap.size := hp_lt hr2
  have hBX : Below w.heap.size w X := hB2.trans (hbX.mono (by omega))
  have h3 := h2.below hbX
  have h4 := h3.setN (n + 1) ((n : Int) + 1) (by omega)
  obtain ⟨h1, -, -⟩ := id h3
  obtain ⟨-, -, c4, -, cf⟩ := h1.cells
  have cf4 := cf 4
  obtain ⟨x0, x1, x2⟩ := tok_cells hx0
  have c4' := c4
  have x0' := x0
  rw [hX] at c4' x0'
  have hn100 : (n : Int) < 4000 := by omega
  have HX := (show Hid (X = _) from hX)
  have H4 := (show Hid (Rd B T g s q (n + 1) ill (X.setCell ⟨g, 4, none⟩ (.int .i64 ((n : Int) + 1)))) from h4)
  have H3 := (show Hid _ from h3)
  have HB := (show Hid _ from hBX)
  clear h2 h1 cf hB2 hbX hr2 h3 h4 hBX hX
  go_wp2_with fail
  rw [← HX.out]
  clear c4' x0' HX
  refine (HP.out X H3.out).mono ?_
  rintro e w5 ⟨rfl, rfl⟩
  clear HP H3
  have hy0 : (w5.setCell ⟨g, 4, none⟩ (.int .i64 ((n : Int) + 1))).heap[w2.heap.size]? = some (.cells #[.int .i64 tk, .string tx, .int .i64 ta] 107 (0, 0)) := by simp [World.setCell, Array.getElem?_modify, hx0, show g ≠ w2.heap.size by omega]
  have hyr : (w5.setCell ⟨g, 4, none⟩ (.int .i64 ((n : Int) + 1))).heap[w.heap.size]? = some (.cells #[.int .i64 0, .string ⟨#[]⟩, .int .i64 0] 107 (0, 0)) := by simp [World.setCell, Array.getElem?_modify, hrX, show g ≠ w.heap.size by omega]
  have hG5 : w.grownBy (w5.setCell ⟨g, 4, none⟩ (.int .i64 ((n : Int) + 1))) (some g) := grown_trans (grown_below HB.out) (grown_set w5 g 4 _)
  have HG := (show Hid _ from hG5)
  clear hG5 HB hx0 hrX x0 x1 x2
  go_wp2_with (first | (refine wpL_store_row rfl 107 _ _ rfl w.heap.size #[.int .i64 tk, .string tx, .int .i64 ta] rfl rfl 107 _ hyr (by kernel_rfl) rfl (by simp [Value.oneCell']) ?_) | (refine wpL_load_row rfl 107 _ rfl w2.heap.size _ 107 (0, 0) _ rfl hy0 Tryz.underlying107 rfl (by kernel_rfl) ?_) | go_in)
  have hh : ((w5.setCell ⟨g, 4, none⟩ (.int .i64 ((n : Int) + 1))).setRow w.heap.size #[.int .i64 tk, .string tx, .int .i64 ta]).heap[w.heap.size]? = some (.cells #[.int .i64 tk, .string tx, .int .i64 ta] 107 (0, 0)) := setRow_heap _ _ _ _ _ _ hyr
  have hG : w.grownBy ((w5.setCell ⟨g, 4, none⟩ (.int .i64 ((n : Int) + 1))).setRow w.heap.size #[.int .i64 tk, .string tx, .int .i64 ta]) (some g) := ⟨HG.out.os, HG.out.tape, HG.out.output, by simpa using HG.out.size, fun i hi hr => (setRow_other _ w.heap.size i _ (by omega)).trans (HG.out.block i hi hr)⟩
  have hD : Dr ((w5.setCell ⟨g, 4, none⟩ (.int .i64 ((n : Int) + 1))).setRow w.heap.size #[.int .i64 tk, .string tx, .int .i64 ta]) g s (.slice (some ⟨q.1, 0, none⟩) T.length q.2) (n + 1) ill := by
    obtain ⟨a, b, e⟩ := H4.out.dr.ex
    exact ⟨a, b, (setRow_other _ w.heap.size g _ (by omega)).trans e⟩
  generalize (w5.setCell ⟨g, 4, none⟩ (.int .i64 ((n : Int) + 1))).setRow w.heap.size #[.int .i64 tk, .string tx, .int .i64 ta] = V at hh hG hD
  obtain ⟨d0, d1, d2⟩ := tok_cells hh
  refine bodyPost_ret (v := .agg #[.int .i64 tk, .string tx, .int .i64 ta]) (by simp [results, Tryz.results83, go_sem, d0, d1, d2]) rfl ?_
  exact ⟨rfl, ⟨hD, HO.out.own.gr hG HO.out.lt, HO.out.lt⟩, hG⟩
end Go.Proofs.YtadoifnfgoonaaaGreatDoor
