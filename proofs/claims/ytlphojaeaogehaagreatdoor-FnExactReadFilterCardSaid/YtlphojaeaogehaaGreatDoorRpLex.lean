
/- Nodes in the order of a text: a tree by its spans, and by a stack: plain. -/

/- Where the nodes below one begin: the specification's recursion. -/

/- The specification's FilterFault. -/

/- The program's tests of nodes: names, texts, kinds. -/

/- The program's reader of a script: what it passes. -/
import Derived.Test.YtlphojaeaogehaaGreatDoorRfParse
import Derived.Test.YtlphojaeaogehaaGreatDoorNodeKids
import Derived.Test.YtlphojaeaogehaaGreatDoorHeadTests
namespace Go.Proofs.YtlphojaeaogehaaGreatDoor
namespace Tr
set_option maxRecDepth 20000 in
theorem snoc_cases {α : Type} (l : List α) : l = [] ∨ ∃ r a, l = r ++ [a] := by
  rcases h : l.reverse with _ | ⟨a, r⟩
  · exact .inl (List.reverse_eq_nil_iff.1 h)
  · refine .inr ⟨r.reverse, a, ?_⟩
    have := congrArg List.reverse h
    simpa using this
/-- What lies from lo up to hi are the trees of these roots, each of at most d nodes deep. -/
inductive Fo (ok : Nat → Bool) (kids : Nat → List Int) : Nat → Nat → Nat → List Int → Prop
  | nil (d a : Nat) : Fo ok kids d a a []
  | snoc (d lo m k : Nat) (ks : List Int) (h1 : Fo ok kids (d + 1) lo m ks) (h2 : ok k = true) (h3 : Fo ok kids d m k (kids k)) : Fo ok kids (d + 1) lo (k + 1) (ks ++ [(k : Int)])
variable {ok ok' : Nat → Bool} {kids : Nat → List Int}
set_option maxRecDepth 20000 in
theorem Fo.mono {d lo hi : Nat} {ks : List Int} (h : Fo ok kids d lo hi ks) : ∀ d', d ≤ d' → Fo ok kids d' lo hi ks := by
  induction h with
  | nil d a => exact fun d' _ => Fo.nil _ _
  | snoc d lo m k ks _ h2 _ ih1 ih2 =>
    intro d' hd
    obtain ⟨e, rfl⟩ : ∃ e, d' = e + 1 := ⟨d' - 1, by omega⟩
    exact Fo.snoc e lo m k ks (ih1 _ hd) h2 (ih2 e (by omega))
set_option maxRecDepth 20000 in
theorem Fo.split {d lo hi : Nat} {l : List Int} (h : Fo ok kids d lo hi l) : ∀ p q, l = p ++ q → ∃ m, Fo ok kids d lo m p ∧ Fo ok kids d m hi q := by
  induction h with
  | nil d a =>
    intro p q e
    obtain ⟨rfl, rfl⟩ := List.append_eq_nil_iff.1 e.symm
    exact ⟨a, Fo.nil _ _, Fo.nil _ _⟩
  | snoc d lo m k ks h1 h2 h3 ih1 ih2 =>
    intro p q e
    rcases snoc_cases q with rfl | ⟨r, a, rfl⟩
    · rw [List.append_nil] at e
      subst e
      exact ⟨k + 1, Fo.snoc d lo m k ks h1 h2 h3, Fo.nil _ _⟩
    · rw [← List.append_assoc] at e
      obtain ⟨e1, e2⟩ := List.append_inj' e rfl
      obtain rfl : (k : Int) = a := by simpa using e2
      obtain ⟨x, hx1, hx2⟩ := ih1 p r e1
      exact ⟨x, hx1, Fo.snoc d x m k r hx2 h2 h3⟩
/-- The specification's way: where the nodes below one begin. -/
def down (sp : Nat → Option Nat) : List Int → Nat → Option Nat
  | [], e => some e
  | k :: r, e => if 0 ≤ k ∧ k + 1 = (e : Int) then (match sp (e - 1) with | some s => down sp r s | none => none) else none
def span (ok : Nat → Bool) (kids : Nat → List Int) : Nat → Nat → Option Nat
  | 0, _ => none
  | f + 1, i => if ok i then down (span ok kids f) (kids i).reverse i else none
set_option maxRecDepth 20000 in
theorem down_fo (f : Nat) (ih : ∀ i s, span ok kids f i = some s → ok i = true ∧ ∃ d, f = d + 1 ∧ Fo ok kids d s i (kids i)) :
    ∀ (ks : List Int) (e s : Nat), down (span ok kids f) ks e = some s → Fo ok kids f s e ks.reverse := by
  intro ks
  induction ks with
  | nil =>
    intro e s h
    simp only [down, Option.some.injEq] at h
    subst h
    exact Fo.nil _ _
  | cons k r ihr =>
    intro e s h
    unfold down at h
    split at h
    · rename_i hk
      split at h
      · rename_i s1 hs1
        obtain ⟨h1, d, rfl, h2⟩ := ih _ _ hs1
        have h3 := ihr s1 s h
        have hke : k = ((e - 1 : Nat) : Int) := by omega
        rw [List.reverse_cons, hke]
        have := Fo.snoc d s s1 (e - 1) r.reverse h3 h1 h2
        rwa [show e - 1 + 1 = e by omega] at this
      · cases h
    · cases h
set_option maxRecDepth 20000 in
theorem span_fo : ∀ (f i s : Nat), span ok kids f i = some s → ok i = true ∧ ∃ d, f = d + 1 ∧ Fo ok kids d s i (kids i)
  | 0, i, s, h => by cases h
  | f + 1, i, s, h => by
    unfold span at h
    split at h
    · rename_i hok
      have := down_fo f (span_fo f) _ _ _ h
      rw [List.reverse_reverse] at this
      exact ⟨hok, f, rfl, this⟩
    · cases h
set_option maxRecDepth 20000 in
theorem fo_down {d lo hi : Nat} {ks : List Int} (h : Fo ok kids d lo hi ks) : down (span ok kids d) ks.reverse hi = some lo := by
  induction h with
  | nil d a => rfl
  | snoc d lo m k ks _ h2 _ ih1 ih2 =>
    rw [List.reverse_append, List.reverse_singleton, List.singleton_append]
    unfold down
    rw [if_pos (by omega)]
    have e : span ok kids (d + 1) (k + 1 - 1) = some m := by
      unfold span
      rw [show k + 1 - 1 = k by omega, if_pos h2]
      exact ih2
    rw [e]
    exact ih1
set_option maxRecDepth 20000 in
theorem fo_span (d s i : Nat) (h1 : ok i = true) (h2 : Fo ok kids d s i (kids i)) : span ok kids (d + 1) i = some s := by
  unfold span
  rw [if_pos h1]
  exact fo_down h2
/-- The program's way: a stack of the nodes that are nobody's kids as yet. -/
def run (ok : Nat → Bool) (kids : Nat → List Int) : Nat → Option (List Int)
  | 0 => some []
  | n + 1 => match run ok kids n with
    | none => none
    | some o => if (kids n).length ≤ o.length ∧ o.drop (o.length - (kids n).length) = kids n ∧ ok n = true then some (o.take (o.length - (kids n).length) ++ [(n : Int)]) else none
set_option maxRecDepth 20000 in
theorem run_fo : ∀ (n : Nat) (o : List Int), run ok kids n = some o → ∃ d, Fo ok kids d 0 n o
  | 0, o, h => by cases h; exact ⟨0, Fo.nil _ _⟩
  | n + 1, o, h => by
    unfold run at h
    split at h
    · cases h
    · rename_i p hp
      split at h
      · rename_i hc
        obtain ⟨h1, h2, h3⟩ := hc
        cases h
        obtain ⟨d, hd⟩ := run_fo n p hp
        obtain ⟨m, hm1, hm2⟩ := hd.split (p.take (p.length - (kids n).length)) (kids n) (by have := (List.take_append_drop (p.length - (kids n).length) p).symm; rwa [h2] at this)
        exact ⟨d + 1, Fo.snoc d 0 m n _ (hm1.mono _ (by omega)) h3 hm2⟩
      · cases h
set_option maxRecDepth 20000 in
theorem fo_run {d lo hi : Nat} {ks : List Int} (h : Fo ok kids d lo hi ks) : ∀ p, run ok kids lo = some p → run ok kids hi = some (p ++ ks) := by
  induction h with
  | nil d a => intro p hp; rw [hp, List.append_nil]
  | snoc d lo m k ks _ h2 _ ih1 ih2 =>
    intro p hp
    have e1 := ih2 _ (ih1 p hp)
    unfold run
    rw [e1]
    dsimp only
    have hl : (p ++ ks ++ kids k).length - (kids k).length = (p ++ ks).length := by simp only [List.length_append]; omega
    rw [if_pos ⟨by simp only [List.length_append]; omega, by rw [hl, List.drop_left], h2⟩, hl, List.take_left, List.append_assoc]
set_option maxRecDepth 20000 in
theorem run_last (n : Nat) (o : List Int) (h : run ok kids (n + 1) = some o) : ∃ p, o = p ++ [(n : Int)] := by
  unfold run at h
  split at h
  · cases h
  · split at h
    · cases h; exact ⟨_, rfl⟩
    · cases h
/-- How deep a node is, by its kids' depths. -/
def mx (dep : Nat → Nat) : List Int → Nat
  | [] => 0
  | k :: r => max (dep k.toNat) (mx dep r)
set_option maxRecDepth 20000 in
theorem mx_le (dep : Nat → Nat) (l : List Int) (d : Nat) : mx dep l ≤ d ↔ ∀ k ∈ l, dep k.toNat ≤ d := by
  induction l with
  | nil => simp [mx]
  | cons k r ih => simp only [mx, List.mem_cons, forall_eq_or_imp, Nat.max_le, ih]
set_option maxRecDepth 20000 in
theorem fo_dep (dep : Nat → Nat) (hdep : ∀ i, dep i = mx dep (kids i) + 1) {d lo hi : Nat} {ks : List Int} (h : Fo ok kids d lo hi ks) : ∀ k ∈ ks, dep k.toNat ≤ d := by
  induction h with
  | nil => intro k hk; cases hk
  | snoc d lo m k ks _ _ _ ih1 ih2 =>
    intro j hj
    rcases List.mem_append.1 hj with hj | hj
    · exact ih1 j hj
    · obtain rfl : j = (k : Int) := by simpa using hj
      rw [Int.toNat_natCast, hdep]
      have := (mx_le dep (kids k) d).2 ih2
      omega
set_option maxRecDepth 20000 in
theorem dep_fo (dep : Nat → Nat) (hdep : ∀ i, dep i = mx dep (kids i) + 1) {D lo hi : Nat} {ks : List Int} (h : Fo ok kids D lo hi ks) : ∀ d, (∀ k ∈ ks, dep k.toNat ≤ d) → Fo ok kids d lo hi ks := by
  induction h with
  | nil => exact fun d _ => Fo.nil _ _
  | snoc D lo m k ks _ h2 _ ih1 ih2 =>
    intro d hd
    have hk := hd k (List.mem_append.2 (.inr (List.mem_singleton.2 rfl)))
    rw [Int.toNat_natCast, hdep] at hk
    obtain ⟨e, rfl⟩ : ∃ e, d = e + 1 := ⟨d - 1, by omega⟩
    exact Fo.snoc e lo m k ks (ih1 _ fun j hj => hd j (List.mem_append.2 (.inl hj))) h2 (ih2 e ((mx_le dep (kids k) e).1 (by omega)))
set_option maxRecDepth 20000 in
/-- Another test that says the same of the nodes that can be met. -/
theorem fo_known (known : Nat → Prop) (h : ∀ k, known k → ok' k = true → ok k = true ∧ ∀ j ∈ kids k, known j.toNat) {d lo hi : Nat} {ks : List Int} (hf : Fo ok' kids d lo hi ks) : (∀ k ∈ ks, known k.toNat) → Fo ok kids d lo hi ks := by
  induction hf with
  | nil => exact fun _ => Fo.nil _ _
  | snoc d lo m k ks _ h2 _ ih1 ih2 =>
    intro hk
    have hkk : known k := by
      have := hk k (List.mem_append.2 (.inr (List.mem_singleton.2 rfl)))
      rwa [Int.toNat_natCast] at this
    obtain ⟨h3, h4⟩ := h k hkk h2
    exact Fo.snoc d lo m k ks (ih1 fun j hj => hk j (List.mem_append.2 (.inl hj))) h3 (ih2 h4)
set_option maxRecDepth 20000 in
theorem fo_weaken (h : ∀ k, ok k = true → ok' k = true) {d lo hi : Nat} {ks : List Int} (hf : Fo ok kids d lo hi ks) : Fo ok' kids d lo hi ks := by
  induction hf with
  | nil => exact Fo.nil _ _
  | snoc d lo m k ks _ h2 _ ih1 ih2 => exact Fo.snoc d lo m k ks ih1 (h k h2) ih2
set_option maxRecDepth 20000 in
/-- Both ways say the same of the last node. -/
theorem same (dep : Nat → Nat) (hdep : ∀ i, dep i = mx dep (kids i) + 1) (known : Nat → Prop) (hw : ∀ k, ok k = true → ok' k = true) (hk : ∀ k, known k → ok' k = true → ok k = true ∧ ∀ j ∈ kids k, known j.toNat) (n d : Nat) (hn : known n) :
    span ok kids (d + 1) n = some 0 ↔ (run ok' kids (n + 1) = some [(n : Int)] ∧ dep n ≤ d + 1) := by
  constructor
  · intro h
    obtain ⟨h1, e, he, h2⟩ := span_fo _ _ _ h
    obtain rfl : d = e := by omega
    have hf : Fo ok kids (d + 1) 0 (n + 1) ([] ++ [(n : Int)]) := Fo.snoc d 0 0 n [] (Fo.nil _ _) h1 h2
    refine ⟨by simpa using fo_run (fo_weaken hw hf) [] rfl, ?_⟩
    have := fo_dep dep hdep hf n (by simp)
    rwa [Int.toNat_natCast] at this
  · rintro ⟨h1, h2⟩
    obtain ⟨D, hD⟩ := run_fo _ _ h1
    have hf := dep_fo dep hdep (fo_known known hk hD (by intro k hk'; obtain rfl : k = (n : Int) := by simpa using hk'
                                                         rwa [Int.toNat_natCast])) (d + 1) (by intro k hk'; obtain rfl : k = (n : Int) := by simpa using hk'
                                                                                               rwa [Int.toNat_natCast])
    generalize hl : [(n : Int)] = l at hf
    generalize hh : n + 1 = hi at hf
    generalize hd : d + 1 = dd at hf
    cases hf with
    | nil => cases hl
    | snoc d' lo m k ks h3 h4 h5 =>
      obtain ⟨rfl⟩ : d = d' := by omega
      obtain rfl : n = k := by omega
      obtain rfl : ks = [] := by
        have := congrArg List.length hl
        simp at this
        exact this
      generalize hz : (0 : Nat) = z at h3
      generalize hnil : ([] : List Int) = nl at h3
      cases h3 with
      | nil => exact fo_span d _ n h4 h5
      | snoc => simp at hnil
end Tr
end Go.Proofs.YtlphojaeaogehaaGreatDoor
namespace Go.Proofs.YtlphojaeaogehaaGreatDoor
open Go.RowKit Go.Lib Go.Maps
namespace Tr
set_option maxRecDepth 20000 in
theorem fo_mem {ok : Nat → Bool} {kids : Nat → List Int} {d lo hi : Nat} {ks : List Int} (h : Fo ok kids d lo hi ks) : lo ≤ hi ∧ ∀ k ∈ ks, 0 ≤ k ∧ k < (hi : Int) := by
  induction h with
  | nil d a => exact ⟨Nat.le_refl _, fun k hk => by cases hk⟩
  | snoc d lo m k ks _ _ _ ih1 ih2 =>
    obtain ⟨a1, a2⟩ := ih1
    obtain ⟨b1, -⟩ := ih2
    refine ⟨by omega, fun j hj => ?_⟩
    rcases List.mem_append.1 hj with hj | hj
    · have := a2 j hj; omega
    · obtain rfl : j = (k : Int) := by simpa using hj
      omega
set_option maxRecDepth 20000 in
theorem span_le {ok : Nat → Bool} {kids : Nat → List Int} (f i s : Nat) (h : span ok kids f i = some s) : s ≤ i := by
  obtain ⟨-, d, -, h2⟩ := span_fo f i s h
  exact (fo_mem h2).1
set_option maxRecDepth 20000 in
theorem down_mem {ok : Nat → Bool} {kids : Nat → List Int} (f : Nat) (ks : List Int) (e s : Nat) (h : down (span ok kids f) ks.reverse e = some s) : ∀ k ∈ ks, 0 ≤ k ∧ k < (e : Int) := by
  have := down_fo f (span_fo f) _ _ _ h
  rw [List.reverse_reverse] at this
  exact (fo_mem this).2
def spV : Option Nat → Int
  | none => -1
  | some s => s
end Tr
namespace Fn
def kindAt (F : List Nd) (k : Int) : Int := (F[k.toNat]?.map (·.kind)).getD 0
def kids (F : List Nd) (i : Nat) : List Int := (F[i]?.map (·.kids)).getD []
def ok (F : List Nd) (i : Nat) : Bool := (F[i]?.map fun n => fieldsOk n && kidsOk n.kind (n.kids.map (kindAt F))).getD false
end Fn
end Go.Proofs.YtlphojaeaogehaaGreatDoor
namespace Go.Proofs.YtlphojaeaogehaaGreatDoor
open Go.RowKit Go.Lib Go.Maps
namespace Fn
/-- Whether nodes are a filter. -/
def good (F : List Nd) : Bool := decide (1 ≤ F.length) && (decide (F.length ≤ 2000) && ((kindAt F ((F.length : Int) - 1) == 1) && (Tr.spV (Tr.span (ok F) (kids F) 20 (F.length - 1)) == 0)))
def code (b : Bool) : Int := if b then 0 else 1
end Fn
end Go.Proofs.YtlphojaeaogehaaGreatDoor
namespace Go.Proofs.YtlphojaeaogehaaGreatDoor
open Go.RowKit Go.Lib Go.Maps
structure KindT (f : FuncId) (K : ByteArray → Bool) : Prop where
  enters : ∀ (args : Array Value) (w : World), (callFunc f args).run Tryz.prog w = .ok (.enter f args) w
  calls : ∀ (t : ByteArray) (w : World), t.size ≤ 1048576 → Calls Tryz.prog f #[.string t] w fun e w' => e = .returned (.bool (K t)) ∧ w = w'
set_option maxRecDepth 20000 in
theorem any_dropT (K : ByteArray → Bool) (F : List ByteArray) (k : Nat) (h : k < F.length) : (F.drop k).any K = (K F[k] || (F.drop (k + 1)).any K) := by
  rw [List.drop_eq_getElem_cons h, List.any_cons]
structure KindI (f : FuncId) (K : Int → Bool) : Prop where
  enters : ∀ (args : Array Value) (w : World), (callFunc f args).run Tryz.prog w = .ok (.enter f args) w
  calls : ∀ (t : Int) (w : World), Calls Tryz.prog f #[.int .i64 t] w fun e w' => e = .returned (.bool (K t)) ∧ w = w'
set_option maxRecDepth 20000 in
theorem any_dropI (K : Int → Bool) (F : List Int) (k : Nat) (h : k < F.length) : (F.drop k).any K = (K F[k] || (F.drop (k + 1)).any K) := by
  rw [List.drop_eq_getElem_cons h, List.any_cons]
set_option maxRecDepth 20000 in
set_option maxHeartbeats 400000 in
theorem implIsTest (k : Int) (w : World) : Calls Tryz.prog 93 #[.int .i64 k] w fun e w' => e = .returned (.bool (Fn.isTest k)) ∧ w = w' := by
  unfold Fn.isTest
  by_cases h1 : 20 ≤ k
  · by_cases h2 : k ≤ 31
    · rw [decide_eq_true h1, decide_eq_true h2]
      go_enter Tryz.func93, Tryz.ntmps93
      go_wp2
      go_ret
      exact ⟨rfl, rfl⟩
    · rw [decide_eq_true h1, decide_eq_false h2]
      go_enter Tryz.func93, Tryz.ntmps93
      go_wp2
      go_ret
      exact ⟨rfl, rfl⟩
  · rw [decide_eq_false h1]
    go_enter Tryz.func93, Tryz.ntmps93
    go_wp2
    go_ret
    exact ⟨rfl, rfl⟩
set_option maxRecDepth 20000 in
set_option maxHeartbeats 400000 in
theorem implIsCmd (k : Int) (w : World) : Calls Tryz.prog 55 #[.int .i64 k] w fun e w' => e = .returned (.bool (Fn.isCmd k)) ∧ w = w' := by
  unfold Fn.isCmd
  by_cases h1 : 2 ≤ k
  · by_cases h2 : k ≤ 11
    · rw [decide_eq_true h1, decide_eq_true h2]
      go_enter Tryz.func55, Tryz.ntmps55
      go_wp2
      go_ret
      exact ⟨rfl, rfl⟩
    · rw [decide_eq_true h1, decide_eq_false h2]
      go_enter Tryz.func55, Tryz.ntmps55
      go_wp2
      go_ret
      exact ⟨rfl, rfl⟩
  · rw [decide_eq_false h1]
    go_enter Tryz.func55, Tryz.ntmps55
    go_wp2
    go_ret
    exact ⟨rfl, rfl⟩
set_option maxRecDepth 20000 in
set_option maxHeartbeats 400000 in
theorem implSmallB (c : UInt8) (w : World) : Calls Tryz.prog 77 #[.int .u8 (c.toNat : Int)] w fun e w' => e = .returned (.bool (Fn.low c)) ∧ w = w' := by
  have h8 : c.toNat < 256 := UInt8.toNat_lt _
  unfold Fn.low
  by_cases h1 : 97 ≤ c.toNat
  · by_cases h2 : c.toNat ≤ 122
    · rw [decide_eq_true h1, decide_eq_true h2]
      have h2' : decide ((c.toNat : Int) ≤ 122) = true := by simp; omega
      go_enter Tryz.func77, Tryz.ntmps77
      go_wp2
      go_ret
      exact ⟨rfl, rfl⟩
    · rw [decide_eq_true h1, decide_eq_false h2]
      have h2' : decide ((c.toNat : Int) ≤ 122) = false := by simp; omega
      go_enter Tryz.func77, Tryz.ntmps77
      go_wp2
      go_ret
      exact ⟨rfl, rfl⟩
  · rw [decide_eq_false h1]
    go_enter Tryz.func77, Tryz.ntmps77
    go_wp2
    go_ret
    exact ⟨rfl, rfl⟩
set_option maxRecDepth 20000 in
theorem kindSmall : Kind 77 Fn.low := ⟨Go.Proofs.enters_of Tryz.func77 (by kernel_rfl) rfl, implSmallB⟩
set_option maxRecDepth 20000 in
set_option maxHeartbeats 400000 in
theorem implVariable (k : ByteArray) (w : World) (hs : k.size ≤ 1048576) : Calls Tryz.prog 60 #[.string k] w fun e w' => e = .returned (.bool (Fn.nameOk k)) ∧ w = w' := by
  have hA := mkH (implAllOf kindSmall k w (by omega))
  unfold Fn.nameOk
  generalize k.data.toList.all Fn.low = A at *
  have he : k.toList.isEmpty = decide (k.size = 0) := by
    rw [ByteArray.toList_eq]
    cases h : k.data.toList with
    | nil =>
      have : k.size = 0 := by
        have := congrArg List.length h
        simpa using this
      simp [this]
    | cons a r =>
      have : k.size ≠ 0 := by
        have := congrArg List.length h
        simp at this
        omega
      simp [this]
  by_cases h1 : 1 ≤ k.size
  · have he1 : k.toList.isEmpty = false := by rw [he]; exact decide_eq_false (by omega)
    by_cases h2 : k.size ≤ 20
    · rw [decide_eq_true h1, decide_eq_true h2, Bool.true_and, Bool.true_and]
      clear he
      go_enter Tryz.func60, Tryz.ntmps60
      go_wp2_with fail
      refine hA.out.mono ?_
      rintro e w2 ⟨rfl, rfl⟩
      clear hA
      go_wp2
      go_ret
      exact ⟨rfl, rfl⟩
    · rw [decide_eq_true h1, decide_eq_false h2]
      clear he hA
      go_enter Tryz.func60, Tryz.ntmps60
      go_wp2
      go_ret
      exact ⟨rfl, rfl⟩
  · have he1 : k.toList.isEmpty = true := by rw [he]; exact decide_eq_true (by omega)
    rw [decide_eq_false h1]
    clear he hA
    go_enter Tryz.func60, Tryz.ntmps60
    go_wp2
    go_ret
    exact ⟨rfl, rfl⟩
end Go.Proofs.YtlphojaeaogehaaGreatDoor
namespace Go.Proofs.YtlphojaeaogehaaGreatDoor
open Go.RowKit Go.Lib
variable {R : List Value × TypeId}
set_option maxRecDepth 20000 in
set_option maxHeartbeats 1000000 in
theorem implGap (c : UInt8) (w : World) : Calls Tryz.prog 71 #[.int .u8 (c.toNat : Int)] w fun e w' => e = .returned (.bool (Rf.gapK c)) ∧ w = w' := by
  have hB := mkHid (implBlank c w)
  have hL := mkHid (implLineByte c w)
  have hg : Rf.gapK c = (Pl.blank c || !Pl.lb c) := by
    unfold Rf.gapK Pl.lb
    cases Pl.blank c <;> cases h1 : (c == 13) <;> cases h2 : (c == 10) <;> simp_all
  rw [hg]
  clear hg
  generalize Pl.lb c = y at *
  have h8 : c.toNat < 256 := UInt8.toNat_lt _
  cases hx : Pl.blank c
  · rw [hx] at hB
    go_enter Tryz.func71, Tryz.ntmps71
    go_wp2_with (go_at_call 90; fail)
    refine hB.out.mono ?_
    rintro e w1 ⟨rfl, rfl⟩
    go_wp2_with (go_at_call 91; fail)
    refine hL.out.mono ?_
    rintro e w1 ⟨rfl, rfl⟩
    go_wp2
    go_ret
    exact ⟨rfl, rfl⟩
  · rw [hx] at hB
    go_enter Tryz.func71, Tryz.ntmps71
    go_wp2_with (go_at_call 90; fail)
    refine hB.out.mono ?_
    rintro e w1 ⟨rfl, rfl⟩
    go_wp2
    go_ret
    exact ⟨rfl, rfl⟩
set_option maxRecDepth 20000 in
theorem kindGap : Kind 71 Rf.gapK := ⟨Go.Proofs.enters_of Tryz.func71 (by kernel_rfl) rfl, implGap⟩
set_option maxRecDepth 20000 in
theorem implCmt (c : UInt8) (w : World) : Calls Tryz.prog 73 #[.int .u8 (c.toNat : Int)] w fun e w' => e = .returned (.bool (Rf.cmtK c)) ∧ w = w' := by
  have h8 : c.toNat < 256 := UInt8.toNat_lt _
  have hg : Rf.cmtK c = ((c.toNat : Int) != 10) := by
    unfold Rf.cmtK
    rw [Bool.eq_iff_iff, bne_iff_ne, bne_iff_ne]
    refine not_congr ⟨fun h => by rw [h]; rfl, fun h => ?_⟩
    exact UInt8.toNat_inj.1 (show c.toNat = (10 : UInt8).toNat by have : (10 : UInt8).toNat = 10 := rfl; omega)
  rw [hg]
  go_enter Tryz.func73, Tryz.ntmps73
  go_wp2
  go_ret
  exact ⟨rfl, rfl⟩
set_option maxRecDepth 20000 in
theorem kindCmt : Kind 73 Rf.cmtK := ⟨Go.Proofs.enters_of Tryz.func73 (by kernel_rfl) rfl, implCmt⟩
set_option maxRecDepth 20000 in
theorem kindLow : Kind 77 Rf.lowK := kindSmall
set_option maxRecDepth 20000 in
theorem implDig (c : UInt8) (w : World) : Calls Tryz.prog 75 #[.int .u8 (c.toNat : Int)] w fun e w' => e = .returned (.bool (Rf.digK c)) ∧ w = w' := by
  have h8 : c.toNat < 256 := UInt8.toNat_lt _
  unfold Rf.digK
  by_cases h1 : 48 ≤ c.toNat
  · have y1 : decide ((48 : Int) ≤ (c.toNat : Int)) = true := decide_eq_true (by omega)
    by_cases h2 : c.toNat ≤ 57
    · have y2 : decide ((c.toNat : Int) ≤ 57) = true := decide_eq_true (by omega)
      rw [decide_eq_true h1, decide_eq_true h2]
      go_enter Tryz.func75, Tryz.ntmps75
      go_wp2
      go_ret
      exact ⟨rfl, rfl⟩
    · have y2 : decide ((c.toNat : Int) ≤ 57) = false := decide_eq_false (by omega)
      rw [decide_eq_true h1, decide_eq_false h2]
      go_enter Tryz.func75, Tryz.ntmps75
      go_wp2
      go_ret
      exact ⟨rfl, rfl⟩
  · have y1 : decide ((48 : Int) ≤ (c.toNat : Int)) = false := decide_eq_false (by omega)
    rw [decide_eq_false h1]
    go_enter Tryz.func75, Tryz.ntmps75
    go_wp2
    go_ret
    exact ⟨rfl, rfl⟩
set_option maxRecDepth 20000 in
theorem kindDig : Kind 75 Rf.digK := ⟨Go.Proofs.enters_of Tryz.func75 (by kernel_rfl) rfl, implDig⟩
set_option maxRecDepth 20000 in
theorem Rf.gap_stop (l : List UInt8) : ∀ (n i : Nat), l.length - i ≤ n → i ≤ l.length → Rf.gap l i = Rf.gap l (Pl.stop Rf.gapK l i)
  | 0, i, h, hi => by
    have e : i = l.length := by omega
    subst e
    have hs : Pl.stop Rf.gapK l l.length = l.length := Nat.le_antisymm (Pl.stop_le _ _ _ (Nat.le_refl _)) (Pl.stop_ge _ _ _ (Nat.le_refl _))
    rw [hs]
  | n + 1, i, h, hi => by
    by_cases hlt : i < l.length
    · cases hc : Rf.gapK (Pl.b l i)
      · have hs : Pl.stop Rf.gapK l i = i := Pl.stop_eq _ _ _ _ (Nat.le_refl _) hi (fun j h1 h2 => by omega) (fun _ => hc)
        rw [hs]
      · have hs : Pl.stop Rf.gapK l (i + 1) = Pl.stop Rf.gapK l i := Pl.first_miss _ _ i hlt (by simp [hc])
        rw [Rf.gap_step l i hlt hc, ← hs]
        exact Rf.gap_stop l n (i + 1) (by omega) (by omega)
    · have e : i = l.length := by omega
      subst e
      have hs : Pl.stop Rf.gapK l l.length = l.length := Nat.le_antisymm (Pl.stop_le _ _ _ (Nat.le_refl _)) (Pl.stop_ge _ _ _ (Nat.le_refl _))
      rw [hs]
set_option maxRecDepth 20000 in
set_option maxHeartbeats 2000000 in
theorem scGap (g : Nat) (s : ByteArray) (a b : Nat) (w : World) (hs : s.size ≤ 100000) (ha : a ≤ s.size) (h : Sc R w g s a b) :
    Calls Tryz.prog 52 #[scp g] w fun e w' => e = .returned (.tuple #[]) ∧ Sc R w' g s (Rf.gap s.data.toList a) b ∧ w.grownBy w' (some g) := by
  obtain ⟨l, hl⟩ : ∃ l, s.data.toList = l := ⟨_, rfl⟩
  have hll : l.length = s.size := by rw [← hl]; simp
  have hP := scPass kindGap g s a b w hs ha h
  obtain ⟨Z, hZ⟩ : ∃ Z, Rf.gap s.data.toList a = Z := ⟨_, rfl⟩
  rw [hZ]
  have h0 : ∀ q, q ≤ s.size → Rf.gap l q = Z → Rf.gap l (Pl.stop Rf.gapK l q) = Z ∧ Pl.stop Rf.gapK l q ≤ s.size ∧ (Pl.stop Rf.gapK l q < s.size → Rf.gapK (Pl.b l (Pl.stop Rf.gapK l q)) = false) := fun q hq he =>
    ⟨(Rf.gap_stop l (l.length - q) q (Nat.le_refl _) (by omega)).symm.trans he, by have := Pl.stop_le Rf.gapK l q (by omega); omega, fun hlt => Pl.stop_not Rf.gapK l q (by omega) (by omega)⟩
  rw [hl] at hP hZ
  obtain ⟨z1, z2, z3⟩ := h0 a ha hZ
  have HP := mkHid hP
  have H0 := mkHid h0
  have Hl := mkHid hl
  replace z1 := mkHid z1
  replace z3 := mkHid z3
  have hgl := h.lt
  clear h hP h0 hZ hl
  obtain ⟨a1, ha1⟩ : ∃ a1, Pl.stop Rf.gapK l a = a1 := ⟨_, rfl⟩
  rw [ha1] at HP z1 z2 z3
  clear ha1
  go_enter Tryz.func52, Tryz.ntmps52
  go_wp2_with (go_at_call 70; fail)
  refine HP.out.mono ?_
  rintro e w1 ⟨rfl, h1, g1⟩
  have S1 : Hid (∃ q, q ≤ s.size ∧ Rf.gap l q = Z ∧ (q < s.size → Rf.gapK (Pl.b l q) = false) ∧ Sc R w1 g s q b ∧ w.grownBy w1 (some g)) := ⟨a1, z2, z1.out, z3.out, h1, g1⟩
  clear HP h1 g1 z1 z2 z3
  go_wp2
  go_loopw [] (fun wr => ∃ q, q ≤ s.size ∧ Rf.gap l q = Z ∧ (q < s.size → Rf.gapK (Pl.b l q) = false) ∧ Sc R wr g s q b ∧ w.grownBy wr (some g)) (fun wr => s.size - atOf wr g)
  case atStart => exact S1.out
  case round =>
    clear S1
    obtain ⟨q, hq, hz, hn, hsc, hgr⟩ := hrel
    have hat := mkHid hsc.at
    have Hsc := mkHid hsc
    have Hgr := mkHid hgr
    replace hz := mkHid hz
    replace hn := mkHid hn
    have c0 := Hsc.out.c0
    have c1 := Hsc.out.c1
    have k0 := cell_regrown c0
    have k1 := cell_regrown c1
    have cE : ∀ d os, Calls Tryz.prog 72 #[scp g] (Go.Sort.grow (redrawn wr d) os) fun e w'' => e = .returned (.bool ((q : Int) == (s.size : Int))) ∧ ∃ p : Regrown, w'' = Go.Sort.grow (redrawn wr p.d) p.os := fun d os => Calls.regrown_of (scEnded g s q b _ (Hsc.out.below (below_regrown wr d os)))
    clear hsc hgr
    by_cases hlt : q < s.size
    · have hne : ((q : Int) == (s.size : Int)) = false := by simp; omega
      simp only [hne] at cE
      have hqI : (q : Int) < (s.size : Int) := by omega
      have hbq : s[q] = Pl.b l q := by rw [← Hl.out]; exact (Pl.b_lt _ q (by simpa using hlt)).symm
      have h8 : s[q].toNat < 256 := UInt8.toNat_lt _
      by_cases h35 : Pl.b l q = 35
      · have hs35 : ((s[q].toNat : Int) == 35) = true := by rw [hbq, h35]; rfl
        have hc1 : Hid (Rf.gap l (Pl.stop Rf.cmtK l q) = Z ∧ q < Pl.stop Rf.cmtK l q ∧ Pl.stop Rf.cmtK l q ≤ s.size) := ⟨(Rf.gap_cmt l q (by omega) h35).symm.trans hz.out, Rf.stop_over Rf.cmtK l q (by omega) (by rw [h35]; decide), by have := Pl.stop_le Rf.cmtK l q (by omega); omega⟩
        clear h35
        replace hbq := mkHid hbq
        generalize hsk : s[q] = c at *
        go_wp2
        refine wp_region_quiet_below (by kernel_rfl) (by kernel_rfl) ?_
        iterate 3 (quiet_step (fail))
        quiet_step (exact cE _ _)
        repeat (quiet_step (fail))
        refine wpQuiet_nil ?_
        intro _ hw'
        obtain ⟨⟨dq, osq⟩, hw''⟩ := hw'
        subst hw''
        have hbw := below_regrown wr dq osq
        have Hs2 := mkHid (Hsc.out.below hbw)
        have Hg2 := mkHid (grown_trans Hgr.out (grown_below hbw))
        generalize Go.Sort.grow (redrawn wr dq) osq = wq at *
        clear c0 c1 k0 k1 cE hbw
        have kC := mkHid (scPass kindCmt g s q b wq hs (by omega) Hs2.out)
        rw [Hl.out] at kC
        obtain ⟨y1, y2, y3⟩ := hc1.out
        replace y1 := mkHid y1
        obtain ⟨q1, hq1⟩ : ∃ q1, Pl.stop Rf.cmtK l q = q1 := ⟨_, rfl⟩
        rw [hq1] at kC y1 y2 y3
        clear hc1 hq1
        go_wp2_with (go_at_call 70; fail)
        refine kC.out.mono ?_
        rintro e w2 ⟨rfl, s2, g2⟩
        have kG := mkHid (scPass kindGap g s q1 b w2 hs y3 s2)
        rw [Hl.out] at kG
        obtain ⟨x1, x2, x3⟩ := H0.out q1 y3 y1.out
        have hge := Pl.stop_ge Rf.gapK l q1 (by omega)
        replace x1 := mkHid x1
        replace x3 := mkHid x3
        obtain ⟨q2, hq2⟩ : ∃ q2, Pl.stop Rf.gapK l q1 = q2 := ⟨_, rfl⟩
        rw [hq2] at kG x1 x2 x3 hge
        have Hg3 := mkHid (grown_trans Hg2.out g2)
        clear hq2 kC s2 g2 Hs2 Hg2
        go_wp2_with (go_at_call 70; fail)
        refine kG.out.mono ?_
        rintro e w3 ⟨rfl, s3, g3⟩
        have HI : Hid (∃ q, q ≤ s.size ∧ Rf.gap l q = Z ∧ (q < s.size → Rf.gapK (Pl.b l q) = false) ∧ Sc R w3 g s q b ∧ w.grownBy w3 (some g)) := ⟨q2, x2, x1.out, x3.out, s3, grown_trans Hg3.out g3⟩
        have HM : Hid (s.size - atOf w3 g < s.size - atOf wr g) := by
          show _ < _
          rw [s3.at, hat.out]
          omega
        clear s3 g3 kG
        go_wp2
        go_roundw
        case rel => exact HI.out
        case measure => exact HM.out
      · have hs35 : ((s[q].toNat : Int) == 35) = false := by
          rw [beq_eq_false_iff_ne]
          intro e
          rw [hbq] at e
          exact h35 (UInt8.toNat_inj.1 (by have : (35 : UInt8).toNat = 35 := rfl; omega))
        have hZq : Hid (Z = q) := show _ = _ from by rw [← hz.out]; exact Rf.gap_done l q (fun hx => ⟨hn.out (by omega), h35⟩)
        clear h35
        replace hbq := mkHid hbq
        generalize hsk : s[q] = c at *
        go_wp2
        refine wp_region_quiet_below (by kernel_rfl) (by kernel_rfl) ?_
        iterate 3 (quiet_step (fail))
        quiet_step (exact cE _ _)
        repeat (quiet_step (fail))
        refine wpQuiet_nil ?_
        intro _ hw'
        obtain ⟨⟨dq, osq⟩, hw''⟩ := hw'
        subst hw''
        have hbw := below_regrown wr dq osq
        have Hs2 := mkHid (Hsc.out.below hbw)
        have Hg2 := mkHid (grown_trans Hgr.out (grown_below hbw))
        generalize Go.Sort.grow (redrawn wr dq) osq = wq at *
        go_wp2
        refine bodyPost_end (v := .tuple #[]) (results_none Tryz.results52 _ _ _) rfl ⟨rfl, ?_⟩
        rw [hZq.out]
        exact ⟨Hs2.out, Hg2.out⟩
    · have hne : ((q : Int) == (s.size : Int)) = true := by simp; omega
      obtain ⟨bE, hbE⟩ : ∃ bE, ((q : Int) == (s.size : Int)) = bE := ⟨_, rfl⟩
      have Hb : Hid (bE = true) := hbE ▸ hne
      simp only [hbE] at cE
      have hZq : Hid (Z = q) := show _ = _ from by rw [← hz.out]; exact Rf.gap_done l q (fun hx => absurd hx (by omega))
      clear hne hbE
      go_wp2
      refine wp_region_quiet_below (by kernel_rfl) (by kernel_rfl) ?_
      iterate 3 (quiet_step (fail))
      quiet_step (exact cE _ _)
      iterate 2 (quiet_step (fail))
      iterate 12 (refine BigFrame.wpQuiet_skip (by obtain rfl : bE = true := Hb.out; rfl) ?_; go_simp)
      obtain rfl : bE = true := Hb.out
      repeat (quiet_step (fail))
      refine wpQuiet_nil ?_
      first | (rintro ⟨dq, osq⟩; simp only) | (intro _ hw'; obtain ⟨⟨dq, osq⟩, hw''⟩ := hw'; subst hw'')
      have hbw := below_regrown wr dq osq
      have Hs2 := mkHid (Hsc.out.below hbw)
      have Hg2 := mkHid (grown_trans Hgr.out (grown_below hbw))
      generalize Go.Sort.grow (redrawn wr dq) osq = wq at *
      go_wp2
      refine bodyPost_end (v := .tuple #[]) (results_none Tryz.results52 _ _ _) rfl ⟨rfl, ?_⟩
      rw [hZq.out]
      exact ⟨Hs2.out, Hg2.out⟩
end Go.Proofs.YtlphojaeaogehaaGreatDoor
