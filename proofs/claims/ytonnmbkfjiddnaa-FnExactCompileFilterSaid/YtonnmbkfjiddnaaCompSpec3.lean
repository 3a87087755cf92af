
/- Nodes in the order of a text: a tree by its spans, and by a stack: plain. -/

/- Where the nodes below one begin: the specification's recursion. -/

/- The specification's FilterFault. -/

/- Trees by spans and by a stack: more, plain. -/

/- The specification's test of a filter's nodes and the program's say the same: plain. -/

/- The code of a filter's tree: plain. -/

/- The specification's maker of code: where an instruction leads; a node of its own. -/

/- A node of its own, on the specification's side. -/

/- The specification's maker of code, by its plain code. -/
import Derived.Test.YtonnmbkfjiddnaaBase
import Derived.Test.YtonnmbkfjiddnaaNodeKids
import Derived.Test.YtonnmbkfjiddnaaCodes2
import Derived.Test.YtonnmbkfjiddnaaCompSpec1
import Derived.Laws.OwnMore
namespace Go.Proofs.Ytonnmbkfjiddnaa
namespace Tr
theorem snoc_cases {α : Type} (l : List α) : l = [] ∨ ∃ r a, l = r ++ [a] := by
  rcases h : l.reverse with _ | ⟨a, r⟩
  · exact .inl (List.reverse_eq_nil_iff.1 h)
  · refine .inr ⟨r.reverse, a, ?_⟩
    have := congrArg List.reverse h
    simpa using this
/-- What lies from lo up to hi are the trees of these roots, each of at most d nodes deep. -/
inductive Fo (ok : Nat → Bool) (kids : Nat → List Int) : Nat → Nat → Nat → List Int → Prop
  | nil (d a : Nat) : Fo ok kids d a a []
  | snoc (d lo m k : Nat) (ks : List Int) (h1 : Fo ok kids (d + 1) lo m ks) (h2 : ok k = true) (h3 : Fo ok kids d m k (kids k)) : Fo ok kids (d + 1) lo (k + 1) (ks ++ [(k : Int)])
variable {ok ok' : Nat → Bool} {kids : Nat → List Int}
theorem Fo.mono {d lo hi : Nat} {ks : List Int} (h : Fo ok kids d lo hi ks) : ∀ d', d ≤ d' → Fo ok kids d' lo hi ks := by
  induction h with
  | nil d a => exact fun d' _ => Fo.nil _ _
  | snoc d lo m k ks _ h2 _ ih1 ih2 =>
    intro d' hd
    obtain ⟨e, rfl⟩ : ∃ e, d' = e + 1 := ⟨d' - 1, by omega⟩
    exact Fo.snoc e lo m k ks (ih1 _ hd) h2 (ih2 e (by omega))
theorem Fo.split {d lo hi : Nat} {l : List Int} (h : Fo ok kids d lo hi l) : ∀ p q, l = p ++ q → ∃ m, Fo ok kids d lo m p ∧ Fo ok kids d m hi q := by
  induction h with
  | nil d a =>
    intro p q e
    obtain ⟨rfl, rfl⟩ := List.append_eq_nil_iff.1 e.symm
    exact ⟨a, Fo.nil _ _, Fo.nil _ _⟩
  | snoc d lo m k ks h1 h2 h3 ih1 ih2 =>
    intro p q e
    rcases snoc_cases q with rfl | ⟨r, a, rfl⟩
    · rw [List.append_nil] at e
      subst e
      exact ⟨k + 1, Fo.snoc d lo m k ks h1 h2 h3, Fo.nil _ _⟩
    · rw [← List.append_assoc] at e
      obtain ⟨e1, e2⟩ := List.append_inj' e rfl
      obtain rfl : (k : Int) = a := by simpa using e2
      obtain ⟨x, hx1, hx2⟩ := ih1 p r e1
      exact ⟨x, hx1, Fo.snoc d x m k r hx2 h2 h3⟩
/-- The specification's way: where the nodes below one begin. -/
def down (sp : Nat → Option Nat) : List Int → Nat → Option Nat
  | [], e => some e
  | k :: r, e => if 0 ≤ k ∧ k + 1 = (e : Int) then (match sp (e - 1) with | some s => down sp r s | none => none) else none
def span (ok : Nat → Bool) (kids : Nat → List Int) : Nat → Nat → Option Nat
  | 0, _ => none
  | f + 1, i => if ok i then down (span ok kids f) (kids i).reverse i else none
theorem down_fo (f : Nat) (ih : ∀ i s, span ok kids f i = some s → ok i = true ∧ ∃ d, f = d + 1 ∧ Fo ok kids d s i (kids i)) :
    ∀ (ks : List Int) (e s : Nat), down (span ok kids f) ks e = some s → Fo ok kids f s e ks.reverse := by
  intro ks
  induction ks with
  | nil =>
    intro e s h
    simp only [down, Option.some.injEq] at h
    subst h
    exact Fo.nil _ _
  | cons k r ihr =>
    intro e s h
    unfold down at h
    split at h
    · rename_i hk
      split at h
      · rename_i s1 hs1
        obtain ⟨h1, d, rfl, h2⟩ := ih _ _ hs1
        have h3 := ihr s1 s h
        have hke : k = ((e - 1 : Nat) : Int) := by omega
        rw [List.reverse_cons, hke]
        have := Fo.snoc d s s1 (e - 1) r.reverse h3 h1 h2
        rwa [show e - 1 + 1 = e by omega] at this
      · cases h
    · cases h
theorem span_fo : ∀ (f i s : Nat), span ok kids f i = some s → ok i = true ∧ ∃ d, f = d + 1 ∧ Fo ok kids d s i (kids i)
  | 0, i, s, h => by cases h
  | f + 1, i, s, h => by
    unfold span at h
    split at h
    · rename_i hok
      have := down_fo f (span_fo f) _ _ _ h
      rw [List.reverse_reverse] at this
      exact ⟨hok, f, rfl, this⟩
    · cases h
theorem fo_down {d lo hi : Nat} {ks : List Int} (h : Fo ok kids d lo hi ks) : down (span ok kids d) ks.reverse hi = some lo := by
  induction h with
  | nil d a => rfl
  | snoc d lo m k ks _ h2 _ ih1 ih2 =>
    rw [List.reverse_append, List.reverse_singleton, List.singleton_append]
    unfold down
    rw [if_pos (by omega)]
    have e : span ok kids (d + 1) (k + 1 - 1) = some m := by
      unfold span
      rw [show k + 1 - 1 = k by omega, if_pos h2]
      exact ih2
    rw [e]
    exact ih1
theorem fo_span (d s i : Nat) (h1 : ok i = true) (h2 : Fo ok kids d s i (kids i)) : span ok kids (d + 1) i = some s := by
  unfold span
  rw [if_pos h1]
  exact fo_down h2
/-- The program's way: a stack of the nodes that are nobody's kids as yet. -/
def run (ok : Nat → Bool) (kids : Nat → List Int) : Nat → Option (List Int)
  | 0 => some []
  | n + 1 => match run ok kids n with
    | none => none
    | some o => if (kids n).length ≤ o.length ∧ o.drop (o.length - (kids n).length) = kids n ∧ ok n = true then some (o.take (o.length - (kids n).length) ++ [(n : Int)]) else none
theorem run_fo : ∀ (n : Nat) (o : List Int), run ok kids n = some o → ∃ d, Fo ok kids d 0 n o
  | 0, o, h => by cases h; exact ⟨0, Fo.nil _ _⟩
  | n + 1, o, h => by
    unfold run at h
    split at h
    · cases h
    · rename_i p hp
      split at h
      · rename_i hc
        obtain ⟨h1, h2, h3⟩ := hc
        cases h
        obtain ⟨d, hd⟩ := run_fo n p hp
        obtain ⟨m, hm1, hm2⟩ := hd.split (p.take (p.length - (kids n).length)) (kids n) (by have := (List.take_append_drop (p.length - (kids n).length) p).symm; rwa [h2] at this)
        exact ⟨d + 1, Fo.snoc d 0 m n _ (hm1.mono _ (by omega)) h3 hm2⟩
      · cases h
theorem fo_run {d lo hi : Nat} {ks : List Int} (h : Fo ok kids d lo hi ks) : ∀ p, run ok kids lo = some p → run ok kids hi = some (p ++ ks) := by
  induction h with
  | nil d a => intro p hp; rw [hp, List.append_nil]
  | snoc d lo m k ks _ h2 _ ih1 ih2 =>
    intro p hp
    have e1 := ih2 _ (ih1 p hp)
    unfold run
    rw [e1]
    dsimp only
    have hl : (p ++ ks ++ kids k).length - (kids k).length = (p ++ ks).length := by simp only [List.length_append]; omega
    rw [if_pos ⟨by simp only [List.length_append]; omega, by rw [hl, List.drop_left], h2⟩, hl, List.take_left, List.append_assoc]
theorem run_last (n : Nat) (o : List Int) (h : run ok kids (n + 1) = some o) : ∃ p, o = p ++ [(n : Int)] := by
  unfold run at h
  split at h
  · cases h
  · split at h
    · cases h; exact ⟨_, rfl⟩
    · cases h
/-- How deep a node is, by its kids' depths. -/
def mx (dep : Nat → Nat) : List Int → Nat
  | [] => 0
  | k :: r => max (dep k.toNat) (mx dep r)
theorem mx_le (dep : Nat → Nat) (l : List Int) (d : Nat) : mx dep l ≤ d ↔ ∀ k ∈ l, dep k.toNat ≤ d := by
  induction l with
  | nil => simp [mx]
  | cons k r ih => simp only [mx, List.mem_cons, forall_eq_or_imp, Nat.max_le, ih]
theorem fo_dep (dep : Nat → Nat) (hdep : ∀ i, dep i = mx dep (kids i) + 1) {d lo hi : Nat} {ks : List Int} (h : Fo ok kids d lo hi ks) : ∀ k ∈ ks, dep k.toNat ≤ d := by
  induction h with
  | nil => intro k hk; cases hk
  | snoc d lo m k ks _ _ _ ih1 ih2 =>
    intro j hj
    rcases List.mem_append.1 hj with hj | hj
    · exact ih1 j hj
    · obtain rfl : j = (k : Int) := by simpa using hj
      rw [Int.toNat_natCast, hdep]
      have := (mx_le dep (kids k) d).2 ih2
      omega
theorem dep_fo (dep : Nat → Nat) (hdep : ∀ i, dep i = mx dep (kids i) + 1) {D lo hi : Nat} {ks : List Int} (h : Fo ok kids D lo hi ks) : ∀ d, (∀ k ∈ ks, dep k.toNat ≤ d) → Fo ok kids d lo hi ks := by
  induction h with
  | nil => exact fun d _ => Fo.nil _ _
  | snoc D lo m k ks _ h2 _ ih1 ih2 =>
    intro d hd
    have hk := hd k (List.mem_append.2 (.inr (List.mem_singleton.2 rfl)))
    rw [Int.toNat_natCast, hdep] at hk
    obtain ⟨e, rfl⟩ : ∃ e, d = e + 1 := ⟨d - 1, by omega⟩
    exact Fo.snoc e lo m k ks (ih1 _ fun j hj => hd j (List.mem_append.2 (.inl hj))) h2 (ih2 e ((mx_le dep (kids k) e).1 (by omega)))
/-- Another test that says the same of the nodes that can be met. -/
theorem fo_known (known : Nat → Prop) (h : ∀ k, known k → ok' k = true → ok k = true ∧ ∀ j ∈ kids k, known j.toNat) {d lo hi : Nat} {ks : List Int} (hf : Fo ok' kids d lo hi ks) : (∀ k ∈ ks, known k.toNat) → Fo ok kids d lo hi ks := by
  induction hf with
  | nil => exact fun _ => Fo.nil _ _
  | snoc d lo m k ks _ h2 _ ih1 ih2 =>
    intro hk
    have hkk : known k := by
      have := hk k (List.mem_append.2 (.inr (List.mem_singleton.2 rfl)))
      rwa [Int.toNat_natCast] at this
    obtain ⟨h3, h4⟩ := h k hkk h2
    exact Fo.snoc d lo m k ks (ih1 fun j hj => hk j (List.mem_append.2 (.inl hj))) h3 (ih2 h4)
theorem fo_weaken (h : ∀ k, ok k = true → ok' k = true) {d lo hi : Nat} {ks : List Int} (hf : Fo ok kids d lo hi ks) : Fo ok' kids d lo hi ks := by
  induction hf with
  | nil => exact Fo.nil _ _
  | snoc d lo m k ks _ h2 _ ih1 ih2 => exact Fo.snoc d lo m k ks ih1 (h k h2) ih2
/-- Both ways say the same of the last node. -/
theorem same (dep : Nat → Nat) (hdep : ∀ i, dep i = mx dep (kids i) + 1) (known : Nat → Prop) (hw : ∀ k, ok k = true → ok' k = true) (hk : ∀ k, known k → ok' k = true → ok k = true ∧ ∀ j ∈ kids k, known j.toNat) (n d : Nat) (hn : known n) :
    span ok kids (d + 1) n = some 0 ↔ (run ok' kids (n + 1) = some [(n : Int)] ∧ dep n ≤ d + 1) := by
  constructor
  · intro h
    obtain ⟨h1, e, he, h2⟩ := span_fo _ _ _ h
    obtain rfl : d = e := by omega
    have hf : Fo ok kids (d + 1) 0 (n + 1) ([] ++ [(n : Int)]) := Fo.snoc d 0 0 n [] (Fo.nil _ _) h1 h2
    refine ⟨by simpa using fo_run (fo_weaken hw hf) [] rfl, ?_⟩
    have := fo_dep dep hdep hf n (by simp)
    rwa [Int.toNat_natCast] at this
  · rintro ⟨h1, h2⟩
    obtain ⟨D, hD⟩ := run_fo _ _ h1
    have hf := dep_fo dep hdep (fo_known known hk hD (by intro k hk'; obtain rfl : k = (n : Int) := by simpa using hk'
                                                         rwa [Int.toNat_natCast])) (d + 1) (by intro k hk'; obtain rfl : k = (n : Int) := by simpa using hk'
                                                                                               rwa [Int.toNat_natCast])
    generalize hl : [(n : Int)] = l at hf
    generalize hh : n + 1 = hi at hf
    generalize hd : d + 1 = dd at hf
    cases hf with
    | nil => cases hl
    | snoc d' lo m k ks h3 h4 h5 =>
      obtain ⟨rfl⟩ : d = d' := by omega
      obtain rfl : n = k := by omega
      obtain rfl : ks = [] := by
        have := congrArg List.length hl
        simp at this
        exact this
      generalize hz : (0 : Nat) = z at h3
      generalize hnil : ([] : List Int) = nl at h3
      cases h3 with
      | nil => exact fo_span d _ n h4 h5
      | snoc => simp at hnil
end Tr
end Go.Proofs.Ytonnmbkfjiddnaa
namespace Go.Proofs.Ytonnmbkfjiddnaa
open Go.RowKit Go.Lib Go.Maps
namespace Tr
theorem fo_mem {ok : Nat → Bool} {kids : Nat → List Int} {d lo hi : Nat} {ks : List Int} (h : Fo ok kids d lo hi ks) : lo ≤ hi ∧ ∀ k ∈ ks, 0 ≤ k ∧ k < (hi : Int) := by
  induction h with
  | nil d a => exact ⟨Nat.le_refl _, fun k hk => by cases hk⟩
  | snoc d lo m k ks _ _ _ ih1 ih2 =>
    obtain ⟨a1, a2⟩ := ih1
    obtain ⟨b1, -⟩ := ih2
    refine ⟨by omega, fun j hj => ?_⟩
    rcases List.mem_append.1 hj with hj | hj
    · have := a2 j hj; omega
    · obtain rfl : j = (k : Int) := by simpa using hj
      omega
theorem span_le {ok : Nat → Bool} {kids : Nat → List Int} (f i s : Nat) (h : span ok kids f i = some s) : s ≤ i := by
  obtain ⟨-, d, -, h2⟩ := span_fo f i s h
  exact (fo_mem h2).1
theorem down_mem {ok : Nat → Bool} {kids : Nat → List Int} (f : Nat) (ks : List Int) (e s : Nat) (h : down (span ok kids f) ks.reverse e = some s) : ∀ k ∈ ks, 0 ≤ k ∧ k < (e : Int) := by
  have := down_fo f (span_fo f) _ _ _ h
  rw [List.reverse_reverse] at this
  exact (fo_mem this).2
def spV : Option Nat → Int
  | none => -1
  | some s => s
end Tr
namespace Fn
def kindAt (F : List Nd) (k : Int) : Int := (F[k.toNat]?.map (·.kind)).getD 0
def kids (F : List Nd) (i : Nat) : List Int := (F[i]?.map (·.kids)).getD []
def ok (F : List Nd) (i : Nat) : Bool := (F[i]?.map fun n => fieldsOk n && kidsOk n.kind (n.kids.map (kindAt F))).getD false
end Fn
set_option maxHeartbeats 4000000 in
set_option maxRecDepth 20000 in
theorem specSpan (o : Option Addr) (F : List Nd) (cap : Nat) (hlF : F.length ≤ 1048576) (hfit : ∀ n ∈ F, n.fits 1048576) (f : Nat) : ∀ (deep i : Nat) (w : World), f + deep = 21 → i < F.length → Nds w.heap.size w o F →
    Calls Try.prog 30 #[.slice o F.length cap, .int .i64 i, .int .i64 deep] w fun e w' => e = .returned (.int .i64 (Tr.spV (Tr.span (Fn.ok F) (Fn.kids F) f i))) ∧ Below w.heap.size w w' := by
  induction f with
  | zero =>
    intro deep i w hd hi hF
    obtain ⟨a, vn, vk, vd, rfl, ha, hA, hI⟩ := hF i hi
    have hI0 := mkH hI
    obtain ⟨⟨a1, e1, rfl, -⟩, ⟨a2, e2, rfl, -⟩, ⟨a3, e3, rfl, t3⟩⟩ := hI
    have c0 := hA.c0
    have c1 := hA.c1
    have c2 := hA.c2
    have c3 := hA.c3
    have c4 := hA.c4
    have c5 := hA.c5
    have c6 := hA.c6
    have hd' : decide ((20 : Int) < (deep : Int)) = true := by simp; omega
    clear hA hF hI0 t3
    generalize F[i] = n at *
    go_enter Try.func30, Try.ntmps30
    go_wp2
    go_ret
    exact ⟨rfl, (Below.refl _ _).alloc (Nat.le_refl _) _⟩
  | succ f ih =>
    intro deep i w hd hi hF
    have hF0 := mkH hF
    obtain ⟨a, vn, vk, vd, rfl, ha, hA, hI⟩ := hF i hi
    have hI0 := mkH hI
    obtain ⟨⟨a1, e1, rfl, -⟩, ⟨a2, e2, rfl, -⟩, ⟨a3, e3, rfl, t3⟩⟩ := hI
    have c0 := hA.c0
    have c1 := hA.c1
    have c2 := hA.c2
    have c3 := hA.c3
    have c4 := hA.c4
    have c5 := hA.c5
    have c6 := hA.c6
    have hd' : decide ((20 : Int) < (deep : Int)) = false := by simp; omega
    have hnf := hfit F[i] (List.getElem_mem hi)
    have hres : Hid (Tr.span (Fn.ok F) (Fn.kids F) (f + 1) i = if (Fn.fieldsOk F[i] && Fn.kidsOk F[i].kind (F[i].kids.map (Fn.kindAt F))) = true then Tr.down (Tr.span (Fn.ok F) (Fn.kids F) f) F[i].kids.reverse i else none) := by
      show Tr.span _ _ (f + 1) i = _
      unfold Tr.span Fn.ok Fn.kids
      rw [List.getElem?_eq_getElem hi]
      rfl
    rw [hres.out]
    obtain ⟨Z, hZ⟩ : ∃ Z, Tr.spV (if (Fn.fieldsOk F[i] && Fn.kidsOk F[i].kind (F[i].kids.map (Fn.kindAt F))) = true then Tr.down (Tr.span (Fn.ok F) (Fn.kids F) f) F[i].kids.reverse i else none) = Z := ⟨_, rfl⟩
    rw [hZ]
    replace hZ := mkH hZ
    replace t3 := mkH t3
    clear hA hF hres
    generalize F[i] = n at *
    obtain ⟨W, hW⟩ : ∃ W, W = w.alloc (.cells #[.int .i64 n.kind, .int .i64 n.num, .int .i64 n.mat, .string n.text, .slice a1 n.names.length e1, .slice a2 n.keys.length e2, .slice a3 n.kids.length e3] 44) := ⟨_, rfl⟩
    have hbW : Below w.heap.size w W := by rw [hW]; exact (Below.refl _ _).alloc (Nat.le_refl _) _
    have hWs : W.heap.size = w.heap.size + 1 := by rw [hW]; simp
    have hB : W.heap[w.heap.size]? = some (.cells #[.int .i64 n.kind, .int .i64 n.num, .int .i64 n.mat, .string n.text, .slice a1 n.names.length e1, .slice a2 n.keys.length e2, .slice a3 n.kids.length e3] 44 (0, 0)) := by rw [hW]; exact hp_allocN _ _
    have hFl := mkH (specFields n (.slice a1 n.names.length e1) (.slice a2 n.keys.length e2) (.slice a3 n.kids.length e3) W ((hI0.out.below hbW).mono hbW.size) hnf)
    replace hW := mkH hW
    go_enter Try.func30, Try.ntmps30
    unfold ndV at hFl
    go_wp2_with fail
    rw [← hW.out]
    refine hFl.out.mono ?_
    rintro e w1 ⟨rfl, hb1⟩
    have hs1 := hb1.size
    have hB1 := (hb1.block w.heap.size (by omega)).trans hB
    have hbw1 : Below w.heap.size w w1 := hbW.trans (hb1.mono hbW.size)
    have hbv1 : Below (w.heap.size + 1) w1 w1 := Below.refl _ _
    clear hFl hB hb1 hW c0 c1 c2 c3 c4 c5 c6
    cases hfo : Fn.fieldsOk n
    · have hz : Hid (Z = -1) := by
        show Z = -1
        rw [← hZ.out, hfo]
        rfl
      clear hfo
      go_wp2
      go_ret
      rw [hz.out]
      exact ⟨rfl, hbw1⟩
    · obtain ⟨R, hR⟩ : ∃ R, Tr.down (Tr.span (Fn.ok F) (Fn.kids F) f) n.kids.reverse i = R := ⟨_, rfl⟩
      have hzn : Hid (R = none → Z = -1) := by
        intro h
        rw [← hZ.out, hR, h]
        split <;> rfl
      have hzs : Hid (∀ s, R = some s → Z = if Fn.kidsOk n.kind (n.kids.map (Fn.kindAt F)) = true then (s : Int) else -1) := by
        intro s h
        rw [← hZ.out, hR, h, hfo, Bool.true_and]
        split <;> rfl
      have HR := mkH hR
      have hmem : Hid (∀ s, R = some s → ∀ k ∈ n.kids, 0 ≤ k ∧ k < (i : Int)) := fun s h => Tr.down_mem f n.kids i s (hR.trans h)
      have q6 : w1.cell? ⟨w.heap.size, 6, none⟩ = some (.slice a3 n.kids.length e3) := by simp [World.cell?, hB1]
      clear hfo hR hZ
      replace hB1 := mkH hB1
      replace hbw1 := mkH hbw1
      have hnl := hnf.2.2.2.2.2
      go_wp2
      go_loopw [8, 9] (fun ev kv wr => ∃ (c x : Nat) (ez kz : Int), ev = .int .i64 ez ∧ ez + 1 = (x : Int) ∧ kv = .int .i64 kz ∧ kz + 1 = (c : Int) ∧ c ≤ n.kids.length ∧ x ≤ i ∧ Hid (Tr.down (Tr.span (Fn.ok F) (Fn.kids F) f) (n.kids.take c).reverse x = R) ∧ Hid (wr.heap[w.heap.size]? = some (.cells #[.int .i64 n.kind, .int .i64 n.num, .int .i64 n.mat, .string n.text, .slice a1 n.names.length e1, .slice a2 n.keys.length e2, .slice a3 n.kids.length e3] 44 (0, 0))) ∧ Hid (Below w.heap.size w wr)) (fun _ kv _ => (Lib.intOf kv + 1).toNat)
      case atStart =>
        exact ⟨n.kids.length, i, (i : Int) - 1, (n.kids.length : Int) - 1, by go_num, by omega, by go_num, by omega, Nat.le_refl _, Nat.le_refl _, by show _ = _; rw [List.take_length]; exact HR.out, hB1, hbw1⟩
      case round =>
        clear q6 hB1 hbw1 HR
        obtain ⟨c, x, ez, kz, rfl, hez, rfl, hkz, hc, hx, hdn, hBr, hbr⟩ := hrel
        have q6 : wr.cell? ⟨w.heap.size, 6, none⟩ = some (.slice a3 n.kids.length e3) := by simp [World.cell?, hBr.out]
        have hszr := hbr.out.size
        rcases Nat.eq_zero_or_pos c with hc0 | hc0
        · subst hc0
          obtain rfl : kz = -1 := by omega
          have hRs : R = some x := hdn.out.symm
          have hm := mkH (hmem.out x hRs)
          have hzz := hzs.out x hRs
          have hin : ∀ j (h : j < n.kids.length) (h' : j < (n.kids.map (Fn.kindAt F)).length), ∃ q : Nat, n.kids[j] = (q : Int) ∧ ∃ hq : q < F.length, F[q].kind = (n.kids.map (Fn.kindAt F))[j] := by
            intro j h h'
            obtain ⟨m1, m2⟩ := hm.out n.kids[j] (List.getElem_mem h)
            refine ⟨n.kids[j].toNat, by omega, by omega, ?_⟩
            rw [List.getElem_map]
            unfold Fn.kindAt
            rw [List.getElem?_eq_getElem (by omega)]
            rfl
          have hK := mkH (specKids n (.slice a1 n.names.length e1) (.slice a2 n.keys.length e2) (.slice a3 n.kids.length e3) (some a) F (n.kids.map (Fn.kindAt F)) cap wr ((hI0.out.below hbr.out).mono hszr) ((hF0.out.below hbr.out).mono hszr) hnf hlF (by rw [List.length_map]) hin)
          unfold ndV at hK
          have hBr1 := hBr.out
          have k0 : wr.cell? ⟨w.heap.size, 0, none⟩ = some (.int .i64 n.kind) := by simp [World.cell?, hBr1]
          have k1 : wr.cell? ⟨w.heap.size, 1, none⟩ = some (.int .i64 n.num) := by simp [World.cell?, hBr1]
          have k2 : wr.cell? ⟨w.heap.size, 2, none⟩ = some (.int .i64 n.mat) := by simp [World.cell?, hBr1]
          have k3 : wr.cell? ⟨w.heap.size, 3, none⟩ = some (.string n.text) := by simp [World.cell?, hBr1]
          have k4 : wr.cell? ⟨w.heap.size, 4, none⟩ = some (.slice a1 n.names.length e1) := by simp [World.cell?, hBr1]
          have k5 : wr.cell? ⟨w.heap.size, 5, none⟩ = some (.slice a2 n.keys.length e2) := by simp [World.cell?, hBr1]
          clear hBr1 hBr hin hdn hRs hzn hzs hmem
          generalize Fn.kidsOk n.kind (n.kids.map (Fn.kindAt F)) = B at *
          replace hzz := mkH hzz
          go_wp2_with fail
          refine hK.out.mono ?_
          rintro e w5 ⟨rfl, hb5⟩
          have hfin := mkH (hbr.out.trans (hb5.mono hszr))
          clear hK hb5 k0 k1 k2 k3 k4 k5 q6
          cases B
          · go_wp2
            go_ret
            rw [hzz.out]
            exact ⟨rfl, hfin.out⟩
          · go_wp2
            go_ret
            rw [hzz.out]
            exact ⟨rfl, hfin.out⟩
        · obtain ⟨c', rfl⟩ : ∃ c', c = c' + 1 := ⟨c - 1, by omega⟩
          obtain rfl : kz = (c' : Int) := by omega
          have hlt : c' < n.kids.length := by omega
          obtain ⟨b, rfl, hbb, ck⟩ := (t3.out.below hbr.out) c' hlt
          have hstep : Hid (R = if 0 ≤ n.kids[c'] ∧ n.kids[c'] + 1 = (x : Int) then (match Tr.span (Fn.ok F) (Fn.kids F) f (x - 1) with | some s => Tr.down (Tr.span (Fn.ok F) (Fn.kids F) f) (n.kids.take c').reverse s | none => none) else none) := by
            show R = _
            rw [← hdn.out, List.take_succ_eq_append_getElem hlt, List.reverse_append, List.reverse_singleton, List.singleton_append]
            rfl
          clear hdn
          generalize n.kids[c'] = kc at *
          by_cases hkc : kc = ez
          · have hb1 : (kc == ez) = true := by simpa using hkc
            have hb1' : (kc != ez) = false := by simp [hkc]
            by_cases he0 : ez < 0
            · have hz := mkH (hzn.out (by rw [hstep.out, if_neg (by omega)]))
              have hb2 : decide (ez < 0) = true := by simpa using he0
              clear hkc hstep hzn hzs hmem
              go_wp2_with fail
              go_ret
              rw [hz.out]
              exact ⟨rfl, hbr.out⟩
            · obtain ⟨q, rfl⟩ : ∃ q : Nat, ez = (q : Int) := ⟨ez.toNat, by omega⟩
              obtain rfl : x = q + 1 := by omega
              have hb2 : decide ((q : Int) < 0) = false := by simp
              have hsp := hstep.out
              rw [if_pos (by omega), show q + 1 - 1 = q by omega] at hsp
              have hC := mkH (ih (deep + 1) q wr (by omega) (by omega) ((hF0.out.below hbr.out).mono hszr))
              rw [show (((deep + 1 : Nat)) : Int) = (deep : Int) + 1 by omega] at hC
              cases hs : Tr.span (Fn.ok F) (Fn.kids F) f q with
              | none =>
                rw [hs] at hsp hC
                have hz := mkH (hzn.out hsp)
                clear hkc hstep hzn hzs hmem hsp hs
                go_wp2_with fail
                refine hC.out.mono ?_
                rintro e w5 ⟨rfl, hb5⟩
                have hfin := mkH (hbr.out.trans (hb5.mono hszr))
                clear hC hb5
                unfold Tr.spV
                go_wp2_with fail
                go_ret
                rw [hz.out]
                exact ⟨rfl, hfin.out⟩
              | some s =>
                have hsl := Tr.span_le f q s hs
                rw [hs] at hsp hC
                clear hkc hstep hzn hzs hmem hs
                replace hsp := mkH hsp
                go_wp2_with fail
                refine hC.out.mono ?_
                rintro e w5 ⟨rfl, hb5⟩
                have hfin := mkH (hbr.out.trans (hb5.mono hszr))
                have hB5 := mkH ((hb5.block w.heap.size (by have := hBr.out; rw [Array.getElem?_eq_some_iff] at this; exact this.1)).trans hBr.out)
                clear hC hb5
                have hs1 : decide ((s : Int) - 1 < -1) = false := by simp; omega
                unfold Tr.spV
                go_wp2_with fail
                go_roundw
                case rel => exact ⟨c', s, (s : Int) - 1, (c' : Int) - 1, by go_num, by omega, by go_num, by omega, by omega, by omega, hsp.out.symm, hB5, hfin⟩
                case measure => simp [Lib.intOf]
          · have hz := mkH (hzn.out (by rw [hstep.out, if_neg (by omega)]))
            have hb1 : (kc == ez) = false := by simpa using hkc
            have hb1' : (kc != ez) = true := by simpa using hkc
            clear hkc hstep hzn hzs hmem
            go_wp2_with fail
            go_ret
            rw [hz.out]
            exact ⟨rfl, hbr.out⟩
end Go.Proofs.Ytonnmbkfjiddnaa
namespace Go.Proofs.Ytonnmbkfjiddnaa
open Go.RowKit Go.Lib Go.Maps
namespace Fn
/-- Whether nodes are a filter. -/
def good (F : List Nd) : Bool := decide (1 ≤ F.length) && (decide (F.length ≤ 2000) && ((kindAt F ((F.length : Int) - 1) == 1) && (Tr.spV (Tr.span (ok F) (kids F) 20 (F.length - 1)) == 0)))
def code (b : Bool) : Int := if b then 0 else 1
end Fn
set_option maxHeartbeats 2000000 in
set_option maxRecDepth 20000 in
theorem specFault (o : Option Addr) (F : List Nd) (cap : Nat) (w : World) (hF : Nds w.heap.size w o F) (hlF : F.length ≤ 1048576) (hfit : ∀ n ∈ F, n.fits 1048576) :
    Calls Try.prog 14 #[.slice o F.length cap] w fun e w' => e = .returned (.int .i64 (Fn.code (Fn.good F))) ∧ Below w.heap.size w w' := by
  obtain ⟨Z, hZ⟩ : ∃ Z, Fn.code (Fn.good F) = Z := ⟨_, rfl⟩
  rw [hZ]
  unfold Fn.good at hZ
  by_cases h1 : 1 ≤ F.length
  · by_cases h2 : F.length ≤ 2000
    · rw [decide_eq_true h1, decide_eq_true h2, Bool.true_and, Bool.true_and] at hZ
      obtain ⟨m, hm⟩ : ∃ m, F.length = m + 1 := ⟨F.length - 1, by omega⟩
      have hml : m < F.length := by omega
      have hS := mkH (specSpan o F cap hlF hfit 20 1 m w rfl hml hF)
      obtain ⟨a, vn, vk, vd, rfl, ha, hA, -⟩ := hF m hml
      have hkA : Fn.kindAt F ((F.length : Int) - 1) = F[m].kind := by
        unfold Fn.kindAt
        rw [show ((F.length : Int) - 1).toNat = m by omega, List.getElem?_eq_getElem hml]
        rfl
      rw [hkA, show F.length - 1 = m by omega] at hZ
      have c0 := hA.c0
      have hmI : (F.length : Int) - 1 = (m : Int) := by omega
      replace hZ := mkH hZ
      replace hm := mkH hm
      clear hA hkA hfit
      generalize F[m].kind = kd at *
      rw [show ((1 : Nat) : Int) = 1 from rfl] at hS
      generalize Tr.spV (Tr.span (Fn.ok F) (Fn.kids F) 20 m) = sp at *
      by_cases hk : kd = 1
      · have k1 : (kd == 1) = true := by simpa using hk
        have k2 : (kd != 1) = false := by simp [hk]
        have hz2 := hZ.out
        rw [k1, Bool.true_and] at hz2
        replace hz2 := mkH hz2
        clear hk hZ
        go_enter Try.func14, Try.ntmps14
        go_wp2_with fail
        refine hS.out.mono ?_
        rintro e w1 ⟨rfl, hb1⟩
        clear hS
        by_cases hs : sp = 0
        · have s1 : (sp == 0) = true := by simpa using hs
          have s2 : (sp != 0) = false := by simp [hs]
          have hz : Hid (Z = 0) := by show Z = 0; rw [← hz2.out, s1]; rfl
          clear hs hz2
          go_wp2
          go_ret
          rw [hz.out]
          exact ⟨rfl, hb1⟩
        · have s1 : (sp == 0) = false := by simpa using hs
          have s2 : (sp != 0) = true := by simpa using hs
          have hz : Hid (Z = 1) := by show Z = 1; rw [← hz2.out, s1]; rfl
          clear hs hz2
          go_wp2
          go_ret
          rw [hz.out]
          exact ⟨rfl, hb1⟩
      · have k1 : (kd == 1) = false := by simpa using hk
        have k2 : (kd != 1) = true := by simpa using hk
        have hz : Hid (Z = 1) := by show Z = 1; rw [← hZ.out, k1]; rfl
        clear hk hZ hS
        go_enter Try.func14, Try.ntmps14
        go_wp2
        go_ret
        rw [hz.out]
        exact ⟨rfl, Below.refl _ _⟩
    · have hz : Hid (Z = 1) := by show Z = 1; rw [← hZ, decide_eq_false h2, Bool.false_and, Bool.and_false]; rfl
      clear hZ hF hfit
      go_enter Try.func14, Try.ntmps14
      go_wp2
      go_ret
      rw [hz.out]
      exact ⟨rfl, Below.refl _ _⟩
  · have hz : Hid (Z = 1) := by show Z = 1; rw [← hZ, decide_eq_false h1]; rfl
    clear hZ hF hfit
    go_enter Try.func14, Try.ntmps14
    go_wp2
    go_ret
    rw [hz.out]
    exact ⟨rfl, Below.refl _ _⟩
end Go.Proofs.Ytonnmbkfjiddnaa
namespace Go.Proofs.Ytonnmbkfjiddnaa
namespace Tr
variable {ok ok' : Nat → Bool} {kids : Nat → List Int}
theorem Fo.le {d lo hi : Nat} {ks : List Int} (h : Fo ok kids d lo hi ks) : lo ≤ hi := by
  induction h with
  | nil => exact Nat.le_refl _
  | snoc d lo m k ks _ _ _ ih1 ih2 => omega
theorem Fo.range {d lo hi : Nat} {ks : List Int} (h : Fo ok kids d lo hi ks) : ∀ k ∈ ks, 0 ≤ k ∧ k < (hi : Int) := by
  induction h with
  | nil => intro k hk; cases hk
  | snoc d lo m k ks h1 _ h3 ih1 _ =>
    intro j hj
    rcases List.mem_append.1 hj with hj | hj
    · have := ih1 j hj
      have := h3.le
      omega
    · obtain rfl : j = (k : Int) := by simpa using hj
      omega
theorem fo_dep' (N : Nat) (dep : Nat → Nat) (hdep : ∀ i, i < N → (∀ k ∈ kids i, 0 ≤ k ∧ k < (i : Int)) → dep i = mx dep (kids i) + 1) {d lo hi : Nat} {ks : List Int} (h : Fo ok kids d lo hi ks) : hi ≤ N → ∀ k ∈ ks, dep k.toNat ≤ d := by
  induction h with
  | nil => intro _ k hk; cases hk
  | snoc d lo m k ks h1 _ h3 ih1 ih2 =>
    intro hN j hj
    have hmk := h3.le
    rcases List.mem_append.1 hj with hj | hj
    · exact ih1 (by omega) j hj
    · obtain rfl : j = (k : Int) := by simpa using hj
      rw [Int.toNat_natCast, hdep k (by omega) h3.range]
      have := (mx_le dep (kids k) d).2 (ih2 (by omega))
      omega
theorem dep_fo' (N : Nat) (dep : Nat → Nat) (hdep : ∀ i, i < N → (∀ k ∈ kids i, 0 ≤ k ∧ k < (i : Int)) → dep i = mx dep (kids i) + 1) {D lo hi : Nat} {ks : List Int} (h : Fo ok kids D lo hi ks) : hi ≤ N → ∀ d, (∀ k ∈ ks, dep k.toNat ≤ d) → Fo ok kids d lo hi ks := by
  induction h with
  | nil => exact fun _ d _ => Fo.nil _ _
  | snoc D lo m k ks h1 h2 h3 ih1 ih2 =>
    intro hN d hd
    have hmk := h3.le
    have hk := hd k (List.mem_append.2 (.inr (List.mem_singleton.2 rfl)))
    rw [Int.toNat_natCast, hdep k (by omega) h3.range] at hk
    obtain ⟨e, rfl⟩ : ∃ e, d = e + 1 := ⟨d - 1, by omega⟩
    exact Fo.snoc e lo m k ks (ih1 (by omega) _ fun j hj => hd j (List.mem_append.2 (.inl hj))) h2 (ih2 (by omega) e ((mx_le dep (kids k) e).1 (by omega)))
theorem same' (N : Nat) (dep : Nat → Nat) (hdep : ∀ i, i < N → (∀ k ∈ kids i, 0 ≤ k ∧ k < (i : Int)) → dep i = mx dep (kids i) + 1) (known : Nat → Prop) (hw : ∀ k, ok k = true → ok' k = true) (hk : ∀ k, known k → ok' k = true → ok k = true ∧ ∀ j ∈ kids k, known j.toNat) (n d : Nat) (hN : n + 1 ≤ N) (hn : known n) :
    span ok kids (d + 1) n = some 0 ↔ (run ok' kids (n + 1) = some [(n : Int)] ∧ dep n ≤ d + 1) := by
  constructor
  · intro h
    obtain ⟨h1, e, he, h2⟩ := span_fo _ _ _ h
    obtain rfl : d = e := by omega
    have hf : Fo ok kids (d + 1) 0 (n + 1) ([] ++ [(n : Int)]) := Fo.snoc d 0 0 n [] (Fo.nil _ _) h1 h2
    refine ⟨by simpa using fo_run (fo_weaken hw hf) [] rfl, ?_⟩
    have := fo_dep' N dep hdep hf hN n (by simp)
    rwa [Int.toNat_natCast] at this
  · rintro ⟨h1, h2⟩
    obtain ⟨D, hD⟩ := run_fo _ _ h1
    have hf := dep_fo' N dep hdep (fo_known known hk hD (by intro k hk'; obtain rfl : k = (n : Int) := by simpa using hk'
                                                            rwa [Int.toNat_natCast])) hN (d + 1) (by intro k hk'; obtain rfl : k = (n : Int) := by simpa using hk'
                                                                                                     rwa [Int.toNat_natCast])
    generalize hl : [(n : Int)] = l at hf
    generalize hh : n + 1 = hi at hf
    generalize hd : d + 1 = dd at hf
    cases hf with
    | nil => cases hl
    | snoc d' lo m k ks h3 h4 h5 =>
      obtain ⟨rfl⟩ : d = d' := by omega
      obtain rfl : n = k := by omega
      obtain rfl : ks = [] := by
        have := congrArg List.length hl
        simp at this
        exact this
      generalize hz : (0 : Nat) = z at h3
      generalize hnil : ([] : List Int) = nl at h3
      cases h3 with
      | nil => exact fo_span d _ n h4 h5
      | snoc => simp at hnil
theorem run_range (n : Nat) (o : List Int) (h : run ok kids n = some o) : ∀ k ∈ o, 0 ≤ k ∧ k < (n : Int) := by
  obtain ⟨d, hd⟩ := run_fo n o h
  exact hd.range
theorem mx_congr (f g : Nat → Nat) (l : List Int) (h : ∀ k ∈ l, f k.toNat = g k.toNat) : mx f l = mx g l := by
  induction l with
  | nil => rfl
  | cons k r ih =>
    simp only [mx]
    rw [h k (List.mem_cons_self ..), ih fun j hj => h j (List.mem_cons_of_mem _ hj)]
theorem run_none (n : Nat) (h : run ok kids n = none) : ∀ m, n ≤ m → run ok kids m = none
  | 0, hm => by obtain rfl : n = 0 := by omega
                exact h
  | m + 1, hm => by
    by_cases e : n = m + 1
    · rw [← e]; exact h
    · have := run_none n h m (by omega)
      unfold run
      rw [this]
theorem run_kids : ∀ (n : Nat) (o : List Int), run ok kids n = some o → ∀ i, i < n → ∀ k ∈ kids i, 0 ≤ k ∧ k < (i : Int)
  | 0, o, _, i, hi => by omega
  | n + 1, o, h, i, hi => by
    unfold run at h
    split at h
    · cases h
    · rename_i p hp
      split at h
      · rename_i hc
        by_cases e : i = n
        · subst e
          intro k hk
          rw [← hc.2.1] at hk
          exact run_range i p hp k (List.mem_of_mem_drop hk)
        · exact run_kids n p hp i (by omega)
      · cases h
theorem run_len : ∀ (n : Nat) (o : List Int), run ok kids n = some o → o.length ≤ n
  | 0, o, h => by cases h; exact Nat.le_refl _
  | n + 1, o, h => by
    unfold run at h
    split at h
    · cases h
    · rename_i p hp
      split at h
      · cases h
        have := run_len n p hp
        rw [List.length_append, List.length_take, List.length_singleton]
        omega
      · cases h
theorem mx_snoc (dep : Nat → Nat) (l : List Int) (k : Int) : mx dep (l ++ [k]) = max (mx dep l) (dep k.toNat) := by
  induction l with
  | nil => simp [mx]
  | cons a r ih => simp only [List.cons_append, mx, ih]; omega
/-- The depths, node by node; kids that stand behind their node count as nothing. -/
def depTo (kids : Nat → List Int) : Nat → Nat → Nat
  | 0, _ => 0
  | n + 1, i => if i = n then mx (depTo kids n) (kids n) + 1 else depTo kids n i
theorem depTo_le (kids : Nat → List Int) : ∀ n i, depTo kids n i ≤ n
  | 0, _ => Nat.le_refl _
  | n + 1, i => by
    unfold depTo
    split
    · have := (mx_le (depTo kids n) (kids n) n).2 (fun k _ => depTo_le kids n k.toNat)
      omega
    · have := depTo_le kids n i
      omega
theorem depTo_up (kids : Nat → List Int) (i : Nat) : ∀ n, i < n → depTo kids n i = depTo kids (i + 1) i
  | 0, h => by omega
  | n + 1, h => by
    by_cases hi : i = n
    · rw [hi]
    · rw [← depTo_up kids i n (by omega)]
      conv => lhs; unfold depTo
      rw [if_neg hi]
theorem depTo_mid (kids : Nat → List Int) (i m n : Nat) (h1 : i < m) (h2 : i < n) : depTo kids m i = depTo kids n i := by rw [depTo_up kids i m h1, depTo_up kids i n h2]
theorem depTo_step (kids : Nat → List Int) (N i : Nat) (h : i < N) (hk : ∀ k ∈ kids i, 0 ≤ k ∧ k < (i : Int)) : depTo kids N i = mx (depTo kids N) (kids i) + 1 := by
  rw [depTo_up kids i N h]
  conv => lhs; unfold depTo
  rw [if_pos rfl, mx_congr (depTo kids i) (depTo kids N) (kids i) fun k hk' => depTo_mid kids _ i N (by have := hk k hk'; omega) (by have := hk k hk'; omega)]
/-- A stack without tests. -/
def tt : Nat → Bool := fun _ => true
theorem run_ok : ∀ (n : Nat) (o : List Int), run ok kids n = some o ↔ (run tt kids n = some o ∧ ∀ i, i < n → ok i = true)
  | 0, o => by
    constructor
    · intro h; exact ⟨h, fun i hi => by omega⟩
    · intro h; exact h.1
  | n + 1, o => by
    constructor
    · intro h
      unfold run at h
      split at h
      · cases h
      · rename_i p hp
        split at h
        · rename_i hc
          obtain ⟨h1, h2⟩ := (run_ok n p).1 hp
          refine ⟨?_, fun i hi => ?_⟩
          · unfold run
            rw [h1]
            dsimp only
            rw [if_pos ⟨hc.1, hc.2.1, rfl⟩]
            exact h
          · by_cases e : i = n
            · rw [e]; exact hc.2.2
            · exact h2 i (by omega)
        · cases h
    · rintro ⟨h, hk⟩
      unfold run at h
      split at h
      · cases h
      · rename_i p hp
        split at h
        · rename_i hc
          have := (run_ok n p).2 ⟨hp, fun i hi => hk i (by omega)⟩
          unfold run
          rw [this]
          dsimp only
          rw [if_pos ⟨hc.1, hc.2.1, hk n (by omega)⟩]
          exact h
        · cases h
def oneT (kids : Nat → List Int) (N : Nat) : Bool := match run tt kids N with | none => false | some o => (o.length : Int) == 1
theorem oneT_iff (kids : Nat → List Int) (n : Nat) : oneT kids (n + 1) = true ↔ run tt kids (n + 1) = some [(n : Int)] := by
  unfold oneT
  constructor
  · intro h
    cases hr : run tt kids (n + 1) with
    | none => rw [hr] at h; cases h
    | some o =>
      rw [hr] at h
      obtain ⟨p, rfl⟩ := run_last n o hr
      have : p = [] := by
        simp at h
        first | exact h | (exact List.length_eq_zero_iff.1 (by omega))
      rw [this]
      rfl
  · intro h
    rw [h]
    rfl
theorem oneT_none (kids : Nat → List Int) (i N : Nat) (hi : i ≤ N) (h : run tt kids i = none) : oneT kids N = false := by
  unfold oneT
  rw [run_none i h N hi]
theorem oneT_zero (kids : Nat → List Int) : oneT kids 0 = false := rfl
theorem oneT_kids (kids : Nat → List Int) (N : Nat) (h : oneT kids N = true) : ∀ i, i < N → ∀ k ∈ kids i, 0 ≤ k ∧ k < (i : Int) := by
  unfold oneT at h
  cases hr : run tt kids N with
  | none => rw [hr] at h; cases h
  | some o => exact run_kids N o hr
/-- Both ways say the same. -/
theorem span_oneT (n d : Nat) : span ok kids (d + 1) n = some 0 ↔ (oneT kids (n + 1) = true ∧ depTo kids (n + 1) n ≤ d + 1 ∧ ∀ i, i < n + 1 → ok i = true) := by
  rw [same' (ok := ok) (ok' := ok) (n + 1) (depTo kids (n + 1)) (fun i => depTo_step kids (n + 1) i) (fun _ => True) (fun _ h => h) (fun _ _ h => ⟨h, fun _ _ => trivial⟩) n d (Nat.le_refl _) trivial, run_ok, oneT_iff]
  exact ⟨fun ⟨⟨a, b⟩, c⟩ => ⟨a, c, b⟩, fun ⟨a, c, b⟩ => ⟨⟨a, b⟩, c⟩⟩
end Tr
end Go.Proofs.Ytonnmbkfjiddnaa
namespace Go.Proofs.Ytonnmbkfjiddnaa
open Go.RowKit Go.Lib Go.Maps
namespace Fn
def bare (n : Nd) : Bool := all5 (u0 n) (m0 n) (t0 n) (n0 n) (k0 n)
def known (k : Int) : Bool := (decide (1 ≤ k) && decide (k ≤ 11)) || (decide (20 ≤ k) && decide (k ≤ 31))
def right (n : Nd) : Bool := if known n.kind = true then fieldsOk n else bare n
def okP (F : List Nd) (i : Nat) : Bool := (F[i]?.map fun n => right n && kidsOk n.kind (n.kids.map (kindAt F))).getD false
theorem known_iff (k : Int) : known k = true ↔ (1 ≤ k ∧ k ≤ 11) ∨ (20 ≤ k ∧ k ≤ 31) := by simp [known]
theorem fields_known (n : Nd) (h : fieldsOk n = true) : known n.kind = true := by
  rw [known_iff]
  unfold fieldsOk at h
  by_cases h1 : n.kind = 3
  · omega
  · rw [if_neg h1] at h
    by_cases h2 : n.kind = 7 ∨ n.kind = 8 ∨ n.kind = 9 ∨ n.kind = 10
    · omega
    · rw [if_neg h2] at h
      by_cases h3 : n.kind = 11
      · omega
      · rw [if_neg h3] at h
        by_cases h4 : n.kind = 28
        · omega
        · rw [if_neg h4] at h
          by_cases h5 : n.kind = 29 ∨ n.kind = 30
          · omega
          · rw [if_neg h5] at h
            by_cases h6 : n.kind = 25 ∨ n.kind = 26 ∨ n.kind = 27 ∨ n.kind = 31
            · omega
            · rw [if_neg h6] at h
              by_cases h7 : n.kind = 1 ∨ n.kind = 2 ∨ n.kind = 4 ∨ n.kind = 5 ∨ n.kind = 6 ∨ n.kind = 20 ∨ n.kind = 21 ∨ n.kind = 22 ∨ n.kind = 23 ∨ n.kind = 24
              · omega
              · rw [if_neg h7] at h
                cases h
theorem ok_okP (F : List Nd) (k : Nat) (h : ok F k = true) : okP F k = true := by
  unfold ok at h
  unfold okP
  cases hq : F[k]? with
  | none => rw [hq] at h; cases h
  | some n =>
    rw [hq] at h
    simp only [Option.map_some, Option.getD_some, Bool.and_eq_true] at h ⊢
    refine ⟨?_, h.2⟩
    unfold right
    rw [if_pos (fields_known n h.1)]
    exact h.1
theorem kid_known (kind : Int) (i : Nat) (k : Int) (h : kidOk kind i k = true) : known k = true := by
  rw [known_iff]
  unfold kidOk at h
  simp only [isCmd, isTest] at h
  repeat' split at h
  all_goals simp at h
  all_goals omega
theorem kids_known (kind : Int) : ∀ (ks : List Int) (i : Nat), kidsFrom kind i ks = true → ∀ k ∈ ks, known k = true
  | [], _, _, k, hk => by cases hk
  | a :: r, i, h, k, hk => by
    rw [kidsFrom, Bool.and_eq_true] at h
    rcases List.mem_cons.1 hk with rfl | hk
    · exact kid_known kind i _ h.1
    · exact kids_known kind r (i + 1) h.2 k hk
theorem okP_ok (F : List Nd) (k : Nat) (hn : known (kindAt F k) = true) (h : okP F k = true) : ok F k = true ∧ ∀ j ∈ kids F k, known (kindAt F ((j.toNat : Nat) : Int)) = true := by
  unfold okP at h
  unfold ok kids
  unfold kindAt at hn
  rw [Int.toNat_natCast] at hn
  cases hq : F[k]? with
  | none => rw [hq] at h; cases h
  | some n =>
    rw [hq] at h hn
    simp only [Option.map_some, Option.getD_some, Bool.and_eq_true] at h hn ⊢
    obtain ⟨h1, h2⟩ := h
    unfold right at h1
    rw [if_pos hn] at h1
    refine ⟨⟨h1, h2⟩, fun j hj => ?_⟩
    unfold kidsOk at h2
    rw [Bool.and_eq_true] at h2
    have := kids_known n.kind _ 0 h2.1 (kindAt F j) (List.mem_map.2 ⟨j, hj, rfl⟩)
    have e : kindAt F ((j.toNat : Nat) : Int) = kindAt F j := by unfold kindAt; rw [Int.toNat_natCast]
    rw [e]
    exact this
/-- The program's answer. -/
def isF (F : List Nd) : Bool :=
  Tr.oneT (kids F) F.length && (decide ((Tr.depTo (kids F) F.length (F.length - 1) : Int) ≤ 20) && ((List.range F.length).all (okP F) && (kindAt F ((F.length : Int) - 1) == 1)))
theorem spV_zero (x : Option Nat) : (Tr.spV x == 0) = true ↔ x = some 0 := by
  cases x with
  | none => simp [Tr.spV]
  | some n => simp [Tr.spV]
theorem good_isF (F : List Nd) (h1 : 1 ≤ F.length) (h2 : F.length ≤ 2000) : good F = isF F := by
  obtain ⟨n, hn⟩ : ∃ n, F.length = n + 1 := ⟨F.length - 1, by omega⟩
  unfold good
  rw [decide_eq_true h1, decide_eq_true h2, Bool.true_and, Bool.true_and, show F.length - 1 = n by omega]
  have hI : (F.length : Int) - 1 = (n : Int) := by omega
  rw [hI]
  by_cases hk : kindAt F n = 1
  · have hs := Tr.same' F.length (Tr.depTo (kids F) F.length) (fun i => Tr.depTo_step (kids F) F.length i) (fun i => known (kindAt F i) = true) (ok_okP F) (fun k => okP_ok F k) n 19 (by omega) (by show known _ = true; rw [hk]; rfl)
    have hb : (kindAt F n == 1) = true := by simpa using hk
    rw [hb, Bool.true_and, Bool.eq_iff_iff, spV_zero, hs, Tr.run_ok, ← Tr.oneT_iff]
    unfold isF
    rw [hI, hb, show F.length - 1 = n by omega, hn]
    simp only [Bool.and_eq_true, decide_eq_true_eq, List.all_eq_true, List.mem_range, and_true]
    constructor
    · rintro ⟨⟨h3, h4⟩, h5⟩
      exact ⟨h3, by omega, h4⟩
    · rintro ⟨h3, h5, h4⟩
      exact ⟨⟨h3, h4⟩, by omega⟩
  · have hb : (kindAt F n == 1) = false := by simpa using hk
    rw [hb, Bool.false_and]
    unfold isF
    rw [hI, hb, Bool.and_false, Bool.and_false, Bool.and_false]
end Fn
end Go.Proofs.Ytonnmbkfjiddnaa
namespace Go.Proofs.Ytonnmbkfjiddnaa
open Go.RowKit Go.Lib Go.Maps
namespace Cp
def z : Nd := ⟨0, 0, 0, ⟨#[]⟩, [], [], []⟩
/-- An instruction with a place; one with a number; one with a node of its own. -/
def zc (op to : Int) : Cd := ⟨op, to, z⟩
def nc (op k : Int) : Cd := ⟨op, 0, { z with num := k }⟩
def bare (n : Nd) : Nd := { n with kids := [] }
def leaf (n : Nd) : Cd := ⟨if Fn.isTest n.kind then 7 else 6, 0, bare n⟩
/-- The codes of nodes one behind the other, from a place on. -/
def cat (f : Nat → Nat → List Cd) : List Int → Nat → List Cd
  | [], _ => []
  | k :: r, b => f k.toNat b ++ cat f r (b + (f k.toNat b).length)
/-- The same with a jump to e ahead of each. -/
def sev (f : Nat → Nat → List Cd) (op e : Int) : List Int → Nat → List Cd
  | [], _ => []
  | k :: r, b => zc op e :: (f k.toNat (b + 1) ++ sev f op e r (b + 1 + (f k.toNat (b + 1)).length))
/-- Where these jumps are. -/
def pos (f : Nat → Nat → List Cd) : List Int → Nat → List Nat
  | [], _ => []
  | k :: r, b => b :: pos f r (b + 1 + (f k.toNat (b + 1)).length)
def sevs (f : Nat → Nat → List Cd) (op : Int) : List Int → Nat → List Cd
  | [], _ => []
  | k :: r, b => f k.toNat b ++ sev f op ((b + (f k.toNat b).length + (sev f op 0 r (b + (f k.toNat b).length)).length : Nat) : Int) r (b + (f k.toNat b).length)
def choice (f : Nat → Nat → List Cd) (k0 k1 : Int) (other : List Int) (b : Nat) : List Cd :=
  let A := f k0.toNat b
  let B := f k1.toNat (b + A.length + 1)
  match other with
  | [] => A ++ zc 4 ((b + A.length + 1 + B.length : Nat) : Int) :: B
  | k2 :: _ =>
    let X := f k2.toNat (b + A.length + 1 + B.length + 1)
    A ++ zc 4 ((b + A.length + 1 + B.length + 1 : Nat) : Int) :: (B ++ zc 2 ((b + A.length + 1 + B.length + 1 + X.length : Nat) : Int) :: X)
def again (f : Nat → Nat → List Cd) (num k0 : Int) (b : Nat) : List Cd :=
  let A := f k0.toNat (b + 2)
  nc 8 num :: zc 9 ((b + 2 + A.length + 1 : Nat) : Int) :: (A ++ [zc 2 ((b + 1 : Nat) : Int)])
def opp (f : Nat → Nat → List Cd) (k0 : Int) (b : Nat) : List Cd :=
  let A := f k0.toNat b
  A ++ [zc 3 ((b + A.length + 3 : Nat) : Int), nc 5 1, zc 2 ((b + A.length + 4 : Nat) : Int), nc 5 0]
/-- What stands behind the first instruction of a node that is no block. -/
def rest (f : Nat → Nat → List Cd) (n : Nd) (b : Nat) : List Cd :=
  if n.kind = 2 then (match n.kids with | k0 :: k1 :: o => choice f k0 k1 o b | _ => []) else
  if n.kind = 3 then (match n.kids with | k0 :: _ => again f n.num k0 b | _ => []) else
  if n.kind = 6 then [zc 10 0] else
  if n.kind = 20 then [nc 5 1] else
  if n.kind = 21 then [nc 5 0] else
  if n.kind = 22 then (match n.kids with | k0 :: _ => opp f k0 b | _ => []) else
  if n.kind = 23 then sevs f 4 n.kids b else
  if n.kind = 24 then sevs f 3 n.kids b else
  [leaf n]
def one (f : Nat → Nat → List Cd) (n : Nd) (b : Nat) : List Cd := if n.kind = 1 then cat f n.kids b else zc 1 0 :: rest f n (b + 1)
/-- The code of a node, as deep as d. -/
def code (F : List Nd) : Nat → Nat → Nat → List Cd
  | 0, _, _ => []
  | d + 1, i, b => one (code F d) (F[i]?.getD z) b
/-- The place of an instruction is told. -/
def pt (L : List Cd) (a : Nat) (e : Int) : List Cd := L.modify a fun c => { c with to := e }
theorem pt_mid (C R : List Cd) (op x e : Int) : pt (C ++ zc op x :: R) C.length e = C ++ zc op e :: R := by
  unfold pt
  induction C with
  | nil => rfl
  | cons c C ih => rw [List.cons_append, List.length_cons, List.modify_succ_cons, ih, List.cons_append]
theorem pt_at (C R : List Cd) (op x e : Int) (a : Nat) (h : a = C.length) : pt (C ++ zc op x :: R) a e = C ++ zc op e :: R := by rw [h, pt_mid]
theorem pt_len (L : List Cd) (a : Nat) (e : Int) : (pt L a e).length = L.length := by simp [pt]
theorem sev_len (f : Nat → Nat → List Cd) (op e : Int) : ∀ (r : List Int) (b : Nat), (sev f op e r b).length = (sev f op 0 r b).length
  | [], _ => rfl
  | k :: r, b => by simp only [sev, List.length_cons, List.length_append, sev_len f op e r]
theorem sev_told (f : Nat → Nat → List Cd) (op e : Int) : ∀ (r : List Int) (b : Nat) (C : List Cd), C.length = b → (pos f r b).foldl (fun L a => pt L a e) (C ++ sev f op 0 r b) = C ++ sev f op e r b
  | [], _, _, _ => rfl
  | k :: r, b, C, h => by
    rw [pos, List.foldl_cons, sev, pt_at _ _ _ _ _ _ h.symm]
    have := sev_told f op e r (b + 1 + (f k.toNat (b + 1)).length) (C ++ zc op e :: f k.toNat (b + 1)) (by rw [List.length_append, List.length_cons, h]; omega)
    rw [List.append_assoc, List.cons_append] at this
    rw [this, sev, List.append_assoc, List.cons_append]
theorem sev_snoc (f : Nat → Nat → List Cd) (op e : Int) (k : Int) : ∀ (r : List Int) (b : Nat), sev f op e (r ++ [k]) b = sev f op e r b ++ zc op e :: f k.toNat (b + (sev f op e r b).length + 1)
  | [], b => by simp [sev]
  | x :: r, b => by
    rw [List.cons_append, sev, sev_snoc f op e k r, sev, List.cons_append, List.append_assoc, List.length_cons, List.length_append]
    congr 5
    omega
theorem pos_snoc (f : Nat → Nat → List Cd) (op : Int) (k : Int) : ∀ (r : List Int) (b : Nat), pos f (r ++ [k]) b = pos f r b ++ [b + (sev f op 0 r b).length]
  | [], b => by simp [pos, sev]
  | x :: r, b => by
    rw [List.cons_append, pos, pos_snoc f op k r, pos, sev, List.cons_append, List.length_cons, List.length_append]
    congr 3
    omega
theorem cat_snoc (f : Nat → Nat → List Cd) (k : Int) : ∀ (r : List Int) (b : Nat), cat f (r ++ [k]) b = cat f r b ++ f k.toNat (b + (cat f r b).length)
  | [], b => by simp [cat]
  | x :: r, b => by
    rw [List.cons_append, cat, cat_snoc f k r, cat, List.append_assoc, List.length_append, Nat.add_assoc]
/-- A node that is right, with all that is below it, as deep as d. -/
inductive Wf (F : List Nd) : Nat → Nat → Prop
  | mk (d i : Nat) (h : i < F.length) (ok : Fn.ok F i = true) (nat : ∀ k ∈ F[i].kids, 0 ≤ k) (kids : ∀ k ∈ F[i].kids, Wf F d k.toNat) : Wf F (d + 1) i
theorem Wf.of (F : List Nd) (d i : Nat) (h : i < F.length) (ok : Fn.ok F i = true) (hk : ∀ k ∈ F[i].kids, 0 ≤ k ∧ Wf F d k.toNat) : Wf F (d + 1) i := Wf.mk d i h ok (fun k hk' => (hk k hk').1) (fun k hk' => (hk k hk').2)
theorem fo_wf (F : List Nd) {d lo hi : Nat} {ks : List Int} (h : Tr.Fo (Fn.ok F) (Fn.kids F) d lo hi ks) : ∀ k ∈ ks, 0 ≤ k ∧ Wf F d k.toNat := by
  induction h with
  | nil => intro k hk; cases hk
  | snoc d lo m k ks _ h2 _ ih1 ih2 =>
    intro j hj
    rcases List.mem_append.1 hj with hj | hj
    · exact ih1 j hj
    · obtain rfl : j = (k : Int) := by simpa using hj
      have hk : k < F.length := by
        unfold Fn.ok at h2
        by_cases hk : k < F.length
        · exact hk
        · rw [List.getElem?_eq_none (by omega)] at h2
          cases h2
      refine ⟨by omega, ?_⟩
      rw [Int.toNat_natCast]
      refine Wf.of F d k hk h2 ?_
      have e : Fn.kids F k = F[k].kids := by
        unfold Fn.kids
        rw [List.getElem?_eq_getElem hk]
        rfl
      rw [e] at ih2
      exact ih2
theorem good_wf (F : List Nd) (h : Fn.good F = true) : 1 ≤ F.length ∧ F.length ≤ 2000 ∧ Fn.kindAt F ((F.length : Int) - 1) = 1 ∧ Wf F 20 (F.length - 1) := by
  unfold Fn.good at h
  simp only [Bool.and_eq_true, decide_eq_true_eq, beq_iff_eq] at h
  obtain ⟨h1, h2, h3, h4⟩ := h
  have h5 := (Fn.spV_zero _).1 (by simpa using h4)
  obtain ⟨h6, d, hd, h7⟩ := Tr.span_fo _ _ _ h5
  have hd' : d = 19 := by omega
  subst hd'
  refine ⟨h1, h2, h3, ?_⟩
  have hk : F.length - 1 < F.length := by omega
  refine Wf.of F 19 _ hk h6 ?_
  have e : Fn.kids F (F.length - 1) = F[F.length - 1].kids := by
    unfold Fn.kids
    rw [List.getElem?_eq_getElem hk]
    rfl
  rw [e] at h7
  exact fo_wf F h7
/-- How much code there is. -/
def sm (g : Nat → Nat) : List Int → Nat
  | [] => 0
  | k :: r => g k.toNat + sm g r
theorem sm_snoc (g : Nat → Nat) (k : Int) : ∀ l, sm g (l ++ [k]) = sm g l + g k.toNat
  | [] => by simp [sm]
  | x :: l => by rw [List.cons_append, sm, sm_snoc g k l, sm]; omega
theorem cat_len (f : Nat → Nat → List Cd) (g : Nat → Nat) (hL : ∀ i b, (f i b).length = g i) : ∀ (ks : List Int) (b : Nat), (cat f ks b).length = sm g ks
  | [], _ => rfl
  | k :: r, b => by rw [cat, List.length_append, hL, cat_len f g hL r, sm]
theorem sev_sm (f : Nat → Nat → List Cd) (g : Nat → Nat) (hL : ∀ i b, (f i b).length = g i) (op e : Int) : ∀ (ks : List Int) (b : Nat), (sev f op e ks b).length = sm g ks + ks.length
  | [], _ => rfl
  | k :: r, b => by rw [sev, List.length_cons, List.length_append, hL, sev_sm f g hL op e r, sm, List.length_cons]; omega
theorem sevs_sm (f : Nat → Nat → List Cd) (g : Nat → Nat) (hL : ∀ i b, (f i b).length = g i) (op : Int) : ∀ (ks : List Int) (b : Nat), (sevs f op ks b).length = sm g ks + (ks.length - 1)
  | [], _ => rfl
  | k :: r, b => by rw [sevs, List.length_append, hL, sev_sm f g hL, sm, List.length_cons]; omega
def chL (g : Nat → Nat) (k0 k1 : Int) : List Int → Nat
  | [] => g k0.toNat + 1 + g k1.toNat
  | k2 :: _ => g k0.toNat + 1 + g k1.toNat + 1 + g k2.toNat
theorem choice_len (f : Nat → Nat → List Cd) (g : Nat → Nat) (hL : ∀ i b, (f i b).length = g i) (k0 k1 : Int) (o : List Int) (b : Nat) : (choice f k0 k1 o b).length = chL g k0 k1 o := by
  unfold choice chL
  cases o with
  | nil => simp only [List.length_append, List.length_cons, hL]; omega
  | cons k r => simp only [List.length_append, List.length_cons, hL]; omega
theorem again_len (f : Nat → Nat → List Cd) (g : Nat → Nat) (hL : ∀ i b, (f i b).length = g i) (num k0 : Int) (b : Nat) : (again f num k0 b).length = g k0.toNat + 3 := by
  unfold again
  simp only [List.length_append, List.length_cons, List.length_nil, hL]
theorem opp_len (f : Nat → Nat → List Cd) (g : Nat → Nat) (hL : ∀ i b, (f i b).length = g i) (k0 : Int) (b : Nat) : (opp f k0 b).length = g k0.toNat + 4 := by
  unfold opp
  simp only [List.length_append, List.length_cons, List.length_nil, hL]
def restL (g : Nat → Nat) (n : Nd) : Nat :=
  if n.kind = 2 then (match n.kids with | k0 :: k1 :: o => chL g k0 k1 o | _ => 0) else
  if n.kind = 3 then (match n.kids with | k0 :: _ => g k0.toNat + 3 | _ => 0) else
  if n.kind = 6 then 1 else if n.kind = 20 then 1 else if n.kind = 21 then 1 else
  if n.kind = 22 then (match n.kids with | k0 :: _ => g k0.toNat + 4 | _ => 0) else
  if n.kind = 23 then sm g n.kids + (n.kids.length - 1) else
  if n.kind = 24 then sm g n.kids + (n.kids.length - 1) else 1
theorem rest_len (f : Nat → Nat → List Cd) (g : Nat → Nat) (hL : ∀ i b, (f i b).length = g i) (n : Nd) (b : Nat) : (rest f n b).length = restL g n := by
  unfold rest restL
  by_cases h2 : n.kind = 2
  · rw [if_pos h2, if_pos h2]
    rcases n.kids with _ | ⟨k0, _ | ⟨k1, o⟩⟩
    · rfl
    · rfl
    · exact choice_len f g hL k0 k1 o b
  rw [if_neg h2, if_neg h2]
  by_cases h3 : n.kind = 3
  · rw [if_pos h3, if_pos h3]
    rcases n.kids with _ | ⟨k0, o⟩
    · rfl
    · exact again_len f g hL n.num k0 b
  rw [if_neg h3, if_neg h3]
  by_cases h6 : n.kind = 6
  · rw [if_pos h6, if_pos h6]; rfl
  rw [if_neg h6, if_neg h6]
  by_cases h20 : n.kind = 20
  · rw [if_pos h20, if_pos h20]; rfl
  rw [if_neg h20, if_neg h20]
  by_cases h21 : n.kind = 21
  · rw [if_pos h21, if_pos h21]; rfl
  rw [if_neg h21, if_neg h21]
  by_cases h22 : n.kind = 22
  · rw [if_pos h22, if_pos h22]
    rcases n.kids with _ | ⟨k0, o⟩
    · rfl
    · exact opp_len f g hL k0 b
  rw [if_neg h22, if_neg h22]
  by_cases h23 : n.kind = 23
  · rw [if_pos h23, if_pos h23]; exact sevs_sm f g hL 4 n.kids b
  rw [if_neg h23, if_neg h23]
  by_cases h24 : n.kind = 24
  · rw [if_pos h24, if_pos h24]; exact sevs_sm f g hL 3 n.kids b
  rw [if_neg h24, if_neg h24]
  rfl
def oneL (g : Nat → Nat) (n : Nd) : Nat := if n.kind = 1 then sm g n.kids else restL g n + 1
theorem one_len (f : Nat → Nat → List Cd) (g : Nat → Nat) (hL : ∀ i b, (f i b).length = g i) (n : Nd) (b : Nat) : (one f n b).length = oneL g n := by
  unfold one oneL
  by_cases h1 : n.kind = 1
  · rw [if_pos h1, if_pos h1, cat_len f g hL]
  · rw [if_neg h1, if_neg h1, List.length_cons, rest_len f g hL]
def codeL (F : List Nd) : Nat → Nat → Nat
  | 0, _ => 0
  | d + 1, i => oneL (codeL F d) (F[i]?.getD z)
theorem code_len (F : List Nd) : ∀ (d i b : Nat), (code F d i b).length = codeL F d i
  | 0, _, _ => rfl
  | d + 1, _, b => one_len _ _ (code_len F d) _ b
theorem oneL_le (g : Nat → Nat) (n : Nd) : oneL g n + 1 ≤ sm g n.kids + n.kids.length + 6 := by
  unfold oneL restL
  split
  · omega
  split
  · rcases n.kids with _ | ⟨k0, _ | ⟨k1, _ | ⟨k2, o⟩⟩⟩ <;> simp only [sm, chL, List.length_cons, List.length_nil] <;> omega
  split
  · rcases n.kids with _ | ⟨k0, o⟩ <;> simp only [sm, List.length_cons, List.length_nil] <;> omega
  split
  · omega
  split
  · omega
  split
  · omega
  split
  · rcases n.kids with _ | ⟨k0, o⟩ <;> simp only [sm, List.length_cons, List.length_nil] <;> omega
  split
  · omega
  split
  · omega
  · omega
theorem fo_sm (F : List Nd) {d lo hi : Nat} {ks : List Int} (h : Tr.Fo (Fn.ok F) (Fn.kids F) d lo hi ks) : lo ≤ hi ∧ sm (codeL F d) ks + ks.length ≤ 6 * (hi - lo) := by
  induction h with
  | nil => exact ⟨Nat.le_refl _, by simp [sm]⟩
  | snoc d lo m k ks _ h2 _ ih1 ih2 =>
    rw [sm_snoc, List.length_append, Int.toNat_natCast]
    have e : Fn.kids F k = (F[k]?.getD z).kids := by
      unfold Fn.kids
      cases F[k]? <;> rfl
    rw [e] at ih2
    have h3 := oneL_le (codeL F d) (F[k]?.getD z)
    have h4 : codeL F (d + 1) k = oneL (codeL F d) (F[k]?.getD z) := rfl
    rw [h4]
    simp only [List.length_cons, List.length_nil]
    omega
theorem good_len (F : List Nd) (h : Fn.good F = true) (b : Nat) : (code F 20 (F.length - 1) b).length ≤ 12000 := by
  unfold Fn.good at h
  simp only [Bool.and_eq_true, decide_eq_true_eq, beq_iff_eq] at h
  obtain ⟨h1, h2, h3, h4⟩ := h
  have h5 := (Fn.spV_zero _).1 (by simpa using h4)
  obtain ⟨h6, d, hd, h7⟩ := Tr.span_fo _ _ _ h5
  have hd' : d = 19 := by omega
  subst hd'
  have h8 := (fo_sm F (Tr.Fo.snoc 19 0 0 (F.length - 1) [] (Tr.Fo.nil _ _) h6 h7)).2
  rw [List.nil_append, sm, sm, Int.toNat_natCast] at h8
  rw [code_len, show (20 : Nat) = 19 + 1 from rfl]
  simp only [List.length_cons, List.length_nil] at h8
  omega
end Cp
end Go.Proofs.Ytonnmbkfjiddnaa
namespace Go.Proofs.Ytonnmbkfjiddnaa
open Go.RowKit Go.Lib Go.Maps
/-- Where an instruction leads. -/
def toE (E : List CdE) (a : Nat) (k : Int) : List CdE := E.modify a fun e => (⟨e.1.op, k, e.1.nd⟩, e.2)
theorem toE_set (E : List CdE) (a : Nat) (h : a < E.length) (k : Int) : toE E a k = E.set a (⟨E[a].1.op, k, E[a].1.nd⟩, E[a].2) := by
  unfold toE
  induction E generalizing a with
  | nil => exact absurd h (Nat.not_lt_zero _)
  | cons x t ih =>
    cases a with
    | zero => rfl
    | succ a => rw [List.modify_succ_cons, List.set_cons_succ, ih a (by simpa using h), List.getElem_cons_succ]
theorem toE_len (E : List CdE) (a : Nat) (k : Int) : (toE E a k).length = E.length := by simp [toE]
theorem toE_pt (E : List CdE) (a : Nat) (k : Int) : (toE E a k).map (·.1) = Cp.pt (E.map (·.1)) a k := by
  unfold toE Cp.pt
  induction E generalizing a with
  | nil => cases a <;> rfl
  | cons x t ih =>
    cases a with
    | zero => rfl
    | succ a => rw [List.modify_succ_cons, List.map_cons, ih, List.map_cons, List.modify_succ_cons]
set_option maxHeartbeats 4000000 in
theorem specHere (g a : Nat) (nv v : Value) (E : List CdE) (w : World) (hM : Mk 41 g nv v E w) (ha : a < E.length) :
    Calls Try.prog 32 #[.pointer (some ⟨g, 0, none⟩), .int .i64 a] w fun e w' => e = .returned (.tuple #[]) ∧ Run 41 g nv v (toE E a (E.length : Int)) w w' := by
  obtain ⟨hblk, hC⟩ := hM
  have hgl := heap_ltM hblk
  obtain ⟨c0, c1⟩ := two_cellsM hblk
  obtain ⟨o, cap, rfl⟩ := hC.shape
  obtain ⟨q, rfl, hq⟩ : ∃ q, o = some ⟨q, 0, none⟩ ∧ g + 1 ≤ q := by
    rcases hC.row.2 with ⟨h1, h0⟩ | ⟨q, cap', cur, h1, h2, -⟩
    · omega
    · simp only [Value.slice.injEq] at h1
      exact ⟨q, h1.1, h2⟩
  have y1 := World.ownsRow.cellAt hC.row (a * 9 + 1) (by omega)
  have z1 := World.ownsRow.frozenAt hC.row (a * 9 + 1)
  rw [cdCells_at E a ha 1 (by omega), show (cell9 E[a])[1]? = some (.int .i64 E[a].1.to) from rfl] at y1
  obtain ⟨hC2, hg2⟩ := hC.told a ha (E.length : Int)
  have HC2 := mkHid hC2
  have Hb : Hid (Ef g (Value.slice (some ⟨q, 0, none⟩) E.length cap).ownBlock w (w.setCell ⟨q, a * 9 + 1, none⟩ (.int .i64 (E.length : Int))).drew) := ⟨rfl, rfl, rfl, by simp, fun k hk _ hr => (grG_set w q (a * 9 + 1) _).block k hk hr⟩
  have hO2 := mkHid ((hg2.block g hgl (by intro e; cases e; omega)).trans hblk)
  clear hC hC2 hg2
  go_enter Try.func32, Try.ntmps32
  go_wp2
  refine wp_region_held (S := fun w => w.cell? ⟨g, 1, none⟩ = some (.slice (some ⟨q, 0, none⟩) E.length cap)) (by kernel_rfl) ?_
  refine wpAnyH_take (i := 0) (v := .pointer (some ⟨g, 0, none⟩)) rfl (by kernel_rfl) (by kernel_rfl) (by kernel_rfl) (fun _ _ _ h => h) (Or.inl ⟨by rfl, ?_⟩) c1 ?_
  · intro w s1
    go_simp
    all_goals first | done | (intro h; exfalso; omega) | omega
  go_simp
  refine wpAnyH_take (i := 1) (v := .pointer (some ⟨g, 0, none⟩)) rfl (by kernel_rfl) (by kernel_rfl) (by kernel_rfl) (fun _ _ _ h => h) (Or.inl ⟨by rfl, ?_⟩) c1 ?_
  · intro w s1
    go_simp
    all_goals first | done | (intro h; exfalso; omega) | omega
  go_simp
  refine wpAnyH_take (i := 2) (v := .pointer (some ⟨g, 1, none⟩)) rfl (by kernel_rfl) (by kernel_rfl) (by kernel_rfl) (fun _ _ _ h => h) (Or.inl ⟨by rfl, ?_⟩) c1 ?_
  · intro w s1
    go_simp
    all_goals first | done | (intro h; exfalso; omega) | omega
  go_simp
  refine wpAnyH_take (i := 3) (v := .slice (some ⟨q, 0, none⟩) E.length cap) rfl (by kernel_rfl) (by kernel_rfl) (by kernel_rfl) (fun _ _ _ h => h) (Or.inl ⟨by rfl, ?_⟩) c1 ?_
  · intro w s1
    go_simp
    all_goals first | done | (intro h; exfalso; omega) | omega
  go_simp
  refine wpAnyH_take (i := 4) (v := .int .i64 (a : Int)) rfl (by kernel_rfl) (by kernel_rfl) (by kernel_rfl) (fun _ _ _ h => h) (Or.inl ⟨by rfl, ?_⟩) c1 ?_
  · intro w s1
    go_simp
    all_goals first | done | (intro h; exfalso; omega) | omega
  go_simp
  refine wpAnyH_take (i := 5) (v := .pointer (some ⟨g, 0, none⟩)) rfl (by kernel_rfl) (by kernel_rfl) (by kernel_rfl) (fun _ _ _ h => h) (Or.inl ⟨by rfl, ?_⟩) c1 ?_
  · intro w s1
    go_simp
    all_goals first | done | (intro h; exfalso; omega) | omega
  go_simp
  refine wpAnyH_take (i := 6) (v := .pointer (some ⟨g, 0, none⟩)) rfl (by kernel_rfl) (by kernel_rfl) (by kernel_rfl) (fun _ _ _ h => h) (Or.inl ⟨by rfl, ?_⟩) c1 ?_
  · intro w s1
    go_simp
    all_goals first | done | (intro h; exfalso; omega) | omega
  go_simp
  refine wpAnyH_take (i := 7) (v := .pointer (some ⟨g, 1, none⟩)) rfl (by kernel_rfl) (by kernel_rfl) (by kernel_rfl) (fun _ _ _ h => h) (Or.inl ⟨by rfl, ?_⟩) c1 ?_
  · intro w s1
    go_simp
    all_goals first | done | (intro h; exfalso; omega) | omega
  go_simp
  refine wpAnyH_take (i := 8) (v := .slice (some ⟨q, 0, none⟩) E.length cap) rfl (by kernel_rfl) (by kernel_rfl) (by kernel_rfl) (fun _ _ _ h => h) (Or.inl ⟨by rfl, ?_⟩) c1 ?_
  · intro w s1
    go_simp
    all_goals first | done | (intro h; exfalso; omega) | omega
  go_simp
  refine wpAnyH_take (i := 9) (v := .int .i64 (E.length : Int)) rfl (by kernel_rfl) (by kernel_rfl) (by kernel_rfl) (fun _ _ _ h => h) (Or.inl ⟨by rfl, ?_⟩) c1 ?_
  · intro w s1
    go_simp
    all_goals first | done | (intro h; exfalso; omega) | omega
  go_simp
  refine wpAnyH_take (i := 10) (v := .pointer (some ⟨q, a * 9, none⟩)) rfl (by kernel_rfl) (by kernel_rfl) (by kernel_rfl) (fun _ _ _ h => h) (Or.inl ⟨by rfl, ?_⟩) c1 ?_
  · intro w s1
    go_simp
    all_goals first | done | (intro h; exfalso; omega) | omega
  go_simp
  refine wpAnyH_take (i := 11) (v := .pointer (some ⟨q, a * 9 + 1, none⟩)) rfl (by kernel_rfl) (by kernel_rfl) (by kernel_rfl) (fun _ _ _ h => h) (Or.inl ⟨by rfl, ?_⟩) c1 ?_
  · intro w s1
    go_simp
    all_goals first | done | (intro h; exfalso; omega) | omega
  go_simp
  refine wpAnyH_all (rs := [12]) (by kernel_rfl) (by simp) ?_
  intro k hk
  simp only [List.mem_cons, List.not_mem_nil, or_false] at hk
  subst hk
  refine wpOp_step rfl (fun K hK => ?_)
  go_simp
  refine hK _ _ ⟨?_, ?_⟩
  · exact (World.cell?_of_block (a := ⟨g, 1, none⟩) ((grG_set w q (a * 9 + 1) _).block g hgl (by intro e; cases e; omega))).trans c1
  clear hK K
  go_simp
  refine wpAnyH_done (by kernel_rfl) ?_ _
  refine bodyPost_end (v := .tuple #[]) (results_none Try.results32 _ _ _) rfl ⟨rfl, _, ⟨hO2.out, ?_⟩, Hb.out, .inl rfl⟩
  rw [toE_set E a ha]
  exact HC2.out.drew
end Go.Proofs.Ytonnmbkfjiddnaa
namespace Go.Proofs.Ytonnmbkfjiddnaa
open Go.RowKit Go.Lib Go.Maps
theorem run_append_noneC {w : World} (base : Nat) (t ty e : TypeId) (i : TypeInfo) (size c : Nat) (ht : Try.prog.underlying t = some (.slice e)) (hi : Try.prog.info? e = some i)
    (v : Value) (n : Nat) (xs : List Value) (hown : w.ownsRow base e size v n xs) :
    (Builtin.append_ #[t, t] ty #[v, .slice none 0 c]).run Try.prog w = .ok v w := by
  rcases hown.2 with ⟨rfl, rfl⟩ | ⟨g, cap, cur, rfl, _, _, hnc, _⟩
  · simp [Builtin.append_, run_underlying ht, sizeOf, typeInfo, hi, Builtin.lenOf, Builtin.firstCells]
  · simp [Builtin.append_, run_underlying ht, sizeOf, typeInfo, hi, Builtin.lenOf, Builtin.firstCells, hnc, storeCells]
/-- A list of texts behind another one. -/
theorem wp_appAll {w : World} {ops : Array Oper} {rest : List Oper} {o : Oper} {a : Act} {Q : Exit → Act → World → Prop} (hgd : o.guard = none) (s x : Operand)
    (ho : o.op = .call { callee := .builtin .append, args := #[s, x], argTypes := #[34, 34] })
    (B : Nat) (v : Value) (C : List ByteArray) (hs : a.eval s = v) (hown : OwnX B v C w) (o' : Option Addr) (P : List ByteArray) (c : Nat) (hx : a.eval x = .slice o' P.length c) (hT : Tx w.heap.size w o' P)
    (hlen : C.length + P.length ≤ 3000000) (hB : B ≤ w.heap.size)
    (h : ∀ v' w', OwnX B v' (C ++ P) w' → w.grownBy w' v.ownBlock → (v'.ownBlock = v.ownBlock ∨ v'.ownBlock = some w.heap.size) → wpList Try.prog ops Q rest (a.put o.dst v') w') : wpList Try.prog ops Q (o :: rest) a w := by
  refine wpList_plain hgd fun K hK => ?_
  obtain ⟨i0, hi0, hz0, hz1, hz2⟩ := info_parts Try.info9X
  have key : ∃ v' w', (Builtin.append_ #[34, 34] o.type #[v, .slice o' P.length c]).run Try.prog w = .ok v' w' ∧ OwnX B v' (C ++ P) w' ∧ w.grownBy w' v.ownBlock ∧ (v'.ownBlock = v.ownBlock ∨ v'.ownBlock = some w.heap.size) := by
    cases o' with
    | none =>
      have hP : P = [] := by
        cases P with
        | nil => rfl
        | cons y t => obtain ⟨a, h1, -⟩ := hT 0 (by simp); cases h1
      subst hP
      refine ⟨v, w, run_append_noneC B _ _ 9 i0 1 c Try.underlying34 hi0 v C.length (strCellsX C) hown, ?_, grN_refl _ _, .inl rfl⟩
      rw [List.append_nil]
      exact hown
    | some ad =>
      unfold OwnX at hown
      obtain ⟨v', w', hr, h2, h3, h4, h5⟩ := run_append_own_at (P := Try.prog) w B 34 o.type 9 i0 (.string ⟨#[]⟩) 1 16 Try.underlying34 hi0 hz0 hz1 hz2 rfl (by decide) v C.length (strCellsX C) hown ad P.length c (strCellsX P) (by simp [strCellsX]) (by
        intro j y hj
        have hj' : j < P.length := by
          by_cases h : j < P.length
          · exact h
          · rw [List.getElem?_eq_none (by simp [strCellsX]; omega)] at hj
            cases hj
        obtain ⟨a, h1, -, h2⟩ := hT j hj'
        cases h1
        rw [h2]
        simp only [strCellsX, List.getElem?_map, List.getElem?_eq_getElem hj', Option.map_some, Option.some.injEq] at hj
        rw [hj]) (by
        intro y hy
        simp only [strCellsX, List.mem_map] at hy
        obtain ⟨z, -, rfl⟩ := hy
        rfl) (by unfold maxLen; omega) (by omega) hB
      refine ⟨v', w', hr, ?_, h3, h5⟩
      unfold OwnX strCellsX
      rw [List.map_append, List.length_append]
      exact h2
  obtain ⟨v', w', hr, h2, h3, h5⟩ := key
  unfold Oper.wp execOp
  simp only [ho, resolve, invoke, builtin, Sem.run_bind, Sem.run_pure, Result.andThen_ok, List.map_toArray, List.map_cons, List.map_nil, hs, hx, hr]
  exact hK _ _ (h v' w' h2 h3 h5)
theorem blk7 {w : World} {g : Nat} {x0 x1 x2 x3 x4 x5 x6 : Value} {t : TypeId} (h : w.heap[g]? = some (.cells #[x0, x1, x2, x3, x4, x5, x6] t (0, 0))) :
    w.cell? ⟨g, 0, none⟩ = some x0 ∧ w.cell? ⟨g, 1, none⟩ = some x1 ∧ w.cell? ⟨g, 2, none⟩ = some x2 ∧ w.cell? ⟨g, 3, none⟩ = some x3 ∧ w.cell? ⟨g, 4, none⟩ = some x4 ∧ w.cell? ⟨g, 5, none⟩ = some x5 ∧ w.cell? ⟨g, 6, none⟩ = some x6 := by
  refine ⟨?_, ?_, ?_, ?_, ?_, ?_, ?_⟩ <;> simp [World.cell?, h]
theorem frz7 {w : World} {g : Nat} {cs : Array Value} {t : TypeId} (h : w.heap[g]? = some (.cells cs t (0, 0))) (j : Nat) : w.frozen? ⟨g, j, none⟩ = false := by simp [World.frozen?, h]
theorem OwnX.setLow {B k j : Nat} {v u : Value} {P : List ByteArray} {w : World} (h : OwnX B v P w) (hk : k < B) : OwnX B v P (w.setCell ⟨k, j, none⟩ u) :=
  h.keep (grG_set w k j u) (by
    cases ho : v.ownBlock with
    | none => exact .inl rfl
    | some q =>
      right
      have := (World.ownsRow.lt h q ho).1
      intro e
      cases e
      omega)
theorem OwnX.lowerC {B B' : Nat} {v : Value} {P : List ByteArray} {w : World} (h : OwnX B v P w) (hB : B' ≤ B) : OwnX B' v P w := by
  refine ⟨h.1, ?_⟩
  rcases h.2 with h | ⟨g, cap, cur, h1, h2, h3⟩
  · exact .inl h
  · exact .inr ⟨g, cap, cur, h1, by omega, h3⟩
set_option maxHeartbeats 4000000 in
theorem specBare (n : Nd) (vn vk vd : Value) (w : World) (hI : NdIn w.heap.size w n vn vk vd) (hf : n.fits 1048576) :
    Calls Try.prog 33 #[ndV n vn vk vd] w fun e w' => ∃ un uk ud, e = .returned (ndV (Cp.bare n) un uk ud) ∧ LsX w.heap.size w' (un, n.names) ∧ LsX w.heap.size w' (uk, n.keys) ∧ FarX (un, n.names) (uk, n.keys) ∧ (∃ o c, ud = .slice o 0 c) ∧ Below w.heap.size w w' := by
  obtain ⟨⟨a1, c1, rfl, T1⟩, ⟨a2, c2, rfl, T2⟩, ⟨a3, c3, rfl, T3⟩⟩ := hI
  obtain ⟨f0, f1, f2, f3, f4, f5⟩ := hf
  obtain ⟨S, hS⟩ : ∃ S, w.heap.size = S := ⟨_, rfl⟩
  obtain ⟨W4, hW4⟩ : ∃ W4, (((w.alloc (.cells #[.int .i64 n.kind, .int .i64 n.num, .int .i64 n.mat, .string n.text, .slice a1 n.names.length c1, .slice a2 n.keys.length c2, .slice (some ⟨w.heap.size + 1 + 1, 0, none⟩) 0 0] 44)).alloc (.cells #[.int .i64 0, .int .i64 0, .int .i64 0, .string ⟨#[]⟩, .slice none 0 0, .slice none 0 0, .slice none 0 0] 44)).alloc (.cells #[] 2)).alloc (.cells #[] 9) = W4 := ⟨_, rfl⟩
  have hb4 : Below w.heap.size w W4 := by
    rw [← hW4]
    exact ((((Below.refl _ _).alloc (Nat.le_refl _) _).alloc (by simp) _).alloc (by simp; omega) _).alloc (by simp; omega) _
  have hs4 : W4.heap.size = S + 4 := by rw [← hW4, ← hS]; simp
  have hx4 : W4.heap[S]? = some (.cells #[.int .i64 n.kind, .int .i64 n.num, .int .i64 n.mat, .string n.text, .slice a1 n.names.length c1, .slice a2 n.keys.length c2, .slice (some ⟨S + 1 + 1, 0, none⟩) 0 0] 44 (0, 0)) := by
    rw [← hW4, heap_alloc_old _ _ _ (by simp; omega), heap_alloc_old _ _ _ (by simp; omega), heap_alloc_old _ _ _ (by simp; omega), ← hS]
    exact heap_alloc_at _ _
  have hr4 : W4.heap[S + 1]? = some (.cells #[.int .i64 0, .int .i64 0, .int .i64 0, .string ⟨#[]⟩, .slice none 0 0, .slice none 0 0, .slice none 0 0] 44 (0, 0)) := by
    rw [← hW4, heap_alloc_old _ _ _ (by simp; omega), heap_alloc_old _ _ _ (by simp; omega)]
    have := heap_alloc_at (w.alloc (.cells #[.int .i64 n.kind, .int .i64 n.num, .int .i64 n.mat, .string n.text, .slice a1 n.names.length c1, .slice a2 n.keys.length c2, .slice (some ⟨w.heap.size + 1 + 1, 0, none⟩) 0 0] 44)) (.cells #[.int .i64 0, .int .i64 0, .int .i64 0, .string ⟨#[]⟩, .slice none 0 0, .slice none 0 0, .slice none 0 0] 44)
    rw [← hS]
    simpa using this
  have ho4 : OwnX (S + 2) (.slice (some ⟨S + 1 + 1 + 1, 0, none⟩) 0 0) [] W4 := by
    have := OwnX.made (S + 2) ((((w.alloc (.cells #[.int .i64 n.kind, .int .i64 n.num, .int .i64 n.mat, .string n.text, .slice a1 n.names.length c1, .slice a2 n.keys.length c2, .slice (some ⟨w.heap.size + 1 + 1, 0, none⟩) 0 0] 44)).alloc (.cells #[.int .i64 0, .int .i64 0, .int .i64 0, .string ⟨#[]⟩, .slice none 0 0, .slice none 0 0, .slice none 0 0] 44)).alloc (.cells #[] 2))) (by simp; omega)
    rw [hW4] at this
    simpa [hS] using this
  have HW4 := mkHid hW4
  have HS := mkHid hS
  have Hb4 := mkHid hb4
  have Hx4 := mkHid hx4
  have Hr4 := mkHid hr4
  have T14 := mkHid ((T1.below hb4).mono (show w.heap.size ≤ W4.heap.size by omega))
  have T2' := mkHid T2
  have Hs4 := mkHid hs4
  have Ho4 := mkHid ho4
  unfold ndV
  clear hb4 hx4 hr4 hW4 T1 T2 T3 hs4 hS ho4
  go_enter Try.func33, Try.ntmps33
  go_wp2_with (at_builtin; go_must (rw [HW4.out]; simp only [HS.out]; refine wp_appAll rfl _ _ rfl (S + 2) (.slice (some ⟨S + 1 + 1 + 1, 0, none⟩) 0 0) [] rfl Ho4.out a1 n.names c1 rfl T14.out (by simp; omega) (by rw [Hs4.out]; omega) ?_; intro v1 w1 ho1 hg1 hv1; refine Hid.out ?_))
  obtain ⟨o1, k1, hv1'⟩ := ho1.shape
  rw [List.nil_append] at ho1 hv1'
  subst hv1'
  have gl1 : W4.heap.size ≤ w1.heap.size := hg1.size
  have ne1 : ∀ k, k < S + 3 → some k ≠ (Value.slice (some ⟨S + 1 + 1 + 1, 0, none⟩) 0 0).ownBlock := by
    intro k hk e
    simp only [Value.ownBlock, Option.some.injEq] at e
    omega
  have hx1 := (hg1.block S (by rw [Hs4.out]; omega) (ne1 S (by omega))).trans Hx4.out
  have hr1 := (hg1.block (S + 1) (by rw [Hs4.out]; omega) (ne1 (S + 1) (by omega))).trans Hr4.out
  have hb1 : Below S w w1 := (Hb4.out.mono (by rw [HS.out]; exact Nat.le_refl _)).grown hg1 (by rw [Hs4.out]; omega) (fun k hk => by
    simp only [Value.ownBlock, Option.some.injEq] at hk
    omega)
  obtain ⟨V2, hV2⟩ : ∃ V2, (w1.setCell ⟨S, 4, none⟩ (.slice o1 n.names.length k1)).alloc (.cells #[] 9) = V2 := ⟨_, rfl⟩
  have gs : S + 4 ≤ w1.heap.size := by rw [Hs4.out] at gl1; exact gl1
  have hsV : V2.heap.size = w1.heap.size + 1 := by rw [← hV2]; simp
  have hx2 : V2.heap[S]? = some (.cells #[.int .i64 n.kind, .int .i64 n.num, .int .i64 n.mat, .string n.text, .slice o1 n.names.length k1, .slice a2 n.keys.length c2, .slice (some ⟨S + 1 + 1, 0, none⟩) 0 0] 44 (0, 0)) := by
    rw [← hV2, heap_alloc_old _ _ _ (by simp; omega)]
    simp [World.setCell, Array.getElem?_modify, hx1]
  have hg2 : w1.grownBy V2 (some S) := by
    rw [← hV2]
    exact ⟨rfl, rfl, rfl, by simp, fun k hk hn => (heap_alloc_old _ _ k (by simpa using hk)).trans ((grG_set w1 S 4 _).block k hk hn)⟩
  have hr2 := (hg2.block (S + 1) (by omega) (by simp)).trans hr1
  have hb2 : Below S w V2 := hb1.grown hg2 (by omega) (fun k hk => by cases hk; exact Nat.le_refl _)
  have hn2 : OwnX (S + 2) (.slice o1 n.names.length k1) n.names V2 := ho1.keep hg2 (by
    cases ho : (Value.slice o1 n.names.length k1).ownBlock with
    | none => exact .inl rfl
    | some q =>
      right
      have := (World.ownsRow.lt ho1 q ho).1
      intro e
      cases e
      omega)
  have ho2 : OwnX (S + 2) (.slice (some ⟨w1.heap.size, 0, none⟩) 0 0) [] V2 := by
    have := OwnX.made (S + 2) (w1.setCell ⟨S, 4, none⟩ (.slice o1 n.names.length k1)) (by simp; omega)
    rw [hV2] at this
    simpa using this
  have T24 := mkHid ((T2'.out.below (hb2.mono (by rw [HS.out]; exact Nat.le_refl _))).mono (show w.heap.size ≤ V2.heap.size by rw [HS.out, hsV]; omega))
  have d4 := (blk7 hx1).2.2.2.2.1
  have e5 : ((w1.setCell ⟨S, 4, none⟩ (.slice o1 n.names.length k1)).alloc (.cells #[] 9)).cell? ⟨S, 5, none⟩ = some (.slice a2 n.keys.length c2) := by rw [hV2]; exact (blk7 hx2).2.2.2.2.2.1
  have z4 := frz7 hx1 4
  have HV2 := mkHid hV2
  have Hx2 := mkHid hx2
  have Hr2 := mkHid hr2
  have Hb2 := mkHid hb2
  have Hn2 := mkHid hn2
  have Ho2 := mkHid ho2
  have HsV := mkHid hsV
  have Ho1 := mkHid ho1
  clear hx1 hr1 hb1 hV2 hx2 hg2 hr2 hb2 hn2 ho2 hsV ho1 hv1 hg1 ne1 gl1
  refine mkHid ?_
  go_wp2_with (at_builtin; go_must (rw [HV2.out]; refine wp_appAll rfl _ _ rfl (S + 2) (.slice (some ⟨w1.heap.size, 0, none⟩) 0 0) [] rfl Ho2.out a2 n.keys c2 rfl T24.out (by simp; omega) (by rw [HsV.out]; omega) ?_; intro v2 w2 ho3 hg3 hv3; refine Hid.out ?_))
  obtain ⟨o2, k2, hv2'⟩ := ho3.shape
  rw [List.nil_append] at ho3 hv2'
  subst hv2'
  have ne3 : ∀ k, k < w1.heap.size → some k ≠ (Value.slice (some ⟨w1.heap.size, 0, none⟩) 0 0).ownBlock := by
    intro k hk e
    simp only [Value.ownBlock, Option.some.injEq] at e
    omega
  have hx3 := (hg3.block S (by rw [HsV.out]; omega) (ne3 S (by omega))).trans Hx2.out
  have hr3 := (hg3.block (S + 1) (by rw [HsV.out]; omega) (ne3 (S + 1) (by omega))).trans Hr2.out
  have hb3 : Below S w w2 := Hb2.out.grown hg3 (by rw [HsV.out]; omega) (fun k hk => by
    simp only [Value.ownBlock, Option.some.injEq] at hk
    omega)
  have gs3 : w1.heap.size + 1 ≤ w2.heap.size := by have := hg3.size; rw [HsV.out] at this; exact this
  have hn3 : OwnX (S + 2) (.slice o1 n.names.length k1) n.names w2 := Hn2.out.keep hg3 (by
    cases ho : (Value.slice o1 n.names.length k1).ownBlock with
    | none => exact .inl rfl
    | some q =>
      right
      have := (World.ownsRow.lt Ho1.out q ho).2
      intro e
      simp only [Value.ownBlock, Option.some.injEq] at e
      omega)
  have hfar : Hid (FarX (.slice o1 n.names.length k1, n.names) (.slice o2 n.keys.length k2, n.keys)) := by
    by_cases hn : n.names = []
    · exact .inl hn
    · refine .inr (.inr ?_)
      have h1 : ∃ q, (Value.slice o1 n.names.length k1).ownBlock = some q ∧ q < w1.heap.size := by
        rcases Ho1.out.2 with ⟨h1, h0⟩ | ⟨q, cap', cur, h1, -⟩
        · exact absurd (List.length_eq_zero_iff.1 h0) hn
        · exact ⟨q, by rw [h1]; rfl, (World.ownsRow.lt Ho1.out q (by rw [h1]; rfl)).2⟩
      obtain ⟨q, h1, h2⟩ := h1
      rw [h1]
      rcases hv3 with h | h <;> rw [h]
      · simp only [Value.ownBlock, ne_eq, Option.some.injEq]; omega
      · rw [HsV.out]; simp only [ne_eq, Option.some.injEq]; omega
  obtain ⟨x0, x1, x2, x3, x4, x5, x6⟩ := blk7 hx3
  obtain ⟨y0, y1, y2, y3, y4, y5, y6⟩ := blk7 hr3
  have zx := frz7 hx3
  have zr := frz7 hr3
  have Hn3 := mkHid hn3
  have Ho3 := mkHid ho3
  have Hb3 := mkHid hb3
  clear hx3 hr3 hb3 hn3 ho3 hg3 hv3 ne3 e5 d4 z4
  refine mkHid ?_
  go_wp2
  refine bodyPost_ret (v := .agg #[.int .i64 n.kind, .int .i64 n.num, .int .i64 n.mat, .string n.text, .slice o1 n.names.length k1, .slice o2 n.keys.length k2, .slice (some ⟨S + 1 + 1, 0, none⟩) 0 0]) (by simp [results, Try.results33, go_sem, y0, y1, y2, y3, y4, y5, y6]) rfl ⟨_, _, _, rfl, ?_, ?_, hfar.out, ⟨_, _, rfl⟩, ?_⟩
  · refine ⟨⟨_, _, rfl⟩, fun _ => ?_⟩
    rw [HS.out]
    exact ((((((((Hn3.out.setLow (by omega)).setLow (by omega)).setLow (by omega)).setLow (by omega)).setLow (by omega)).setLow (by omega)).setLow (by omega)).setLow (by omega)).lowerC (by omega)
  · refine ⟨⟨_, _, rfl⟩, fun _ => ?_⟩
    rw [HS.out]
    exact ((((((((Ho3.out.setLow (by omega)).setLow (by omega)).setLow (by omega)).setLow (by omega)).setLow (by omega)).setLow (by omega)).setLow (by omega)).setLow (by omega)).lowerC (by omega)
  · rw [HS.out]
    have l0 : S ≤ S := Nat.le_refl _
    have l1 : S ≤ S + 1 := Nat.le_succ _
    exact (((((((Hb3.out.setCell (p := ⟨S, 5, none⟩) l0 _).setCell (p := ⟨S + 1, 0, none⟩) l1 _).setCell (p := ⟨S + 1, 1, none⟩) l1 _).setCell (p := ⟨S + 1, 2, none⟩) l1 _).setCell (p := ⟨S + 1, 3, none⟩) l1 _).setCell (p := ⟨S + 1, 4, none⟩) l1 _).setCell (p := ⟨S + 1, 5, none⟩) l1 _).setCell (p := ⟨S + 1, 6, none⟩) l1 _
end Go.Proofs.Ytonnmbkfjiddnaa
namespace Go.Proofs.Ytonnmbkfjiddnaa
open Go.RowKit Go.Lib Go.Maps
/-- The maker, and its code. -/
def Mc (t : TypeId) (g : Nat) (nv v : Value) (C : List Cd) (w : World) : Prop := ∃ E, E.map (·.1) = C ∧ Mk t g nv v E w
/-- What a call of the maker's comes to. -/
def Rc (t : TypeId) (g : Nat) (nv v : Value) (C : List Cd) (w w' : World) : Prop := ∃ v', Mc t g nv v' C w' ∧ Ef g v.ownBlock w w' ∧ Nw w v v'
theorem Mc.blk {t : TypeId} {g : Nat} {nv v : Value} {C : List Cd} {w : World} (h : Mc t g nv v C w) : w.heap[g]? = some (.cells #[nv, v] t (0, 0)) := by
  obtain ⟨E, -, hM⟩ := h
  exact hM.blk
theorem Mc.below {t : TypeId} {g : Nat} {nv v : Value} {C : List Cd} {w w' : World} (h : Mc t g nv v C w) (hb : Below w.heap.size w w') : Mc t g nv v C w' := by
  obtain ⟨E, hE, hM⟩ := h
  exact ⟨E, hE, hM.below hb⟩
theorem Mc.low {t : TypeId} {g : Nat} {nv v : Value} {C : List Cd} {w w' : World} (h : Mc t g nv v C w) (hE : Ef g v.ownBlock w w') : Below g w w' := by
  obtain ⟨E, -, hM⟩ := h
  exact hE.low hM
theorem Rc.trans {t : TypeId} {g : Nat} {nv v v1 : Value} {C : List Cd} {w w1 w2 : World} (hE : Ef g v.ownBlock w w1) (hN : Nw w v v1) (h : Rc t g nv v1 C w1 w2) : Rc t g nv v C w w2 := by
  obtain ⟨v2, hM, hE2, hN2⟩ := h
  exact ⟨v2, hM, hE.trans hN hE2, hN.trans hE.size hN2⟩
theorem Rc.ahead {t : TypeId} {g : Nat} {nv v : Value} {C : List Cd} {w w1 w2 : World} (hb : Below w.heap.size w w1) (h : Rc t g nv v C w1 w2) : Rc t g nv v C w w2 := by
  obtain ⟨v2, hM, hE2, hN2⟩ := h
  exact ⟨v2, hM, Ef.ahead hb hE2, Nw.ahead hb.size hN2⟩
/-- A block that calls of the maker's leave as it is. -/
structure Lo (g : Nat) (v : Value) (b : Nat) (cs : Array Value) (w : World) : Prop where
  blk : w.heap[b]? = some (.cells cs 44 (0, 0))
  ne : b ≠ g
  nr : some b ≠ v.ownBlock
theorem Lo.keep {g b : Nat} {v v' : Value} {cs : Array Value} {w w' : World} (h : Lo g v b cs w) (hE : Ef g v.ownBlock w w') (hN : Nw w v v') : Lo g v' b cs w' := by
  have hb := heap_ltM h.blk
  refine ⟨(hE.keep b hb h.ne h.nr).trans h.blk, h.ne, ?_⟩
  rcases hN with e | ⟨k, hk, e⟩
  · rw [e]; exact h.nr
  · rw [e]
    intro e2
    simp only [Option.some.injEq] at e2
    omega
theorem Lo.below {g b : Nat} {v : Value} {cs : Array Value} {w w' : World} (h : Lo g v b cs w) (hb : Below w.heap.size w w') : Lo g v b cs w' := ⟨(hb.block b (heap_ltM h.blk)).trans h.blk, h.ne, h.nr⟩
/-- The maker's own call: an instruction without a node. -/
theorem specPut0 (g : Nat) (nv v : Value) (C : List Cd) (op k : Int) (w : World) (hM : Mc 41 g nv v C w) (hlen : C.length ≤ 100000) :
    Calls Try.prog 16 #[.pointer (some ⟨g, 0, none⟩), .int .i64 op, .agg #[.int .i64 0, .int .i64 k, .int .i64 0, .string ⟨#[]⟩, .slice none 0 0, .slice none 0 0, .slice none 0 0]] w fun e w' => e = .returned (.int .i64 C.length) ∧ Rc 41 g nv v (C ++ [⟨op, 0, { Cp.z with num := k }⟩]) w w' := by
  obtain ⟨E, hE, hM⟩ := hM
  have hl : E.length = C.length := by rw [← hE]; simp
  refine (specPut g nv v E op { Cp.z with num := k } (.slice none 0 0) (.slice none 0 0) (.slice none 0 0) w hM (by omega) (LsX.nil _ _) (LsX.nil _ _) (.inl rfl) (fun s _ => ⟨.inr (.inl rfl), .inr (.inl rfl)⟩) ⟨rfl, none, 0, rfl⟩).mono ?_
  rintro e w' ⟨rfl, v', hM', hE', hN'⟩
  exact ⟨by rw [hl], v', ⟨_, by rw [List.map_append, hE]; rfl, hM'⟩, hE', hN'⟩
/-- An instruction with a node of its own. -/
theorem specPutN (g : Nat) (nv v : Value) (C : List Cd) (op : Int) (n : Nd) (un uk ud : Value) (w w1 : World) (hM : Mc 41 g nv v C w) (hlen : C.length ≤ 100000) (hb : Below w.heap.size w w1)
    (hn : LsX w.heap.size w1 (un, n.names)) (hk : LsX w.heap.size w1 (uk, n.keys)) (hf : FarX (un, n.names) (uk, n.keys)) (hd : ∃ o c, ud = .slice o 0 c) :
    Calls Try.prog 16 #[.pointer (some ⟨g, 0, none⟩), .int .i64 op, ndV (Cp.bare n) un uk ud] w1 fun e w' => e = .returned (.int .i64 C.length) ∧ Rc 41 g nv v (C ++ [⟨op, 0, Cp.bare n⟩]) w w' := by
  obtain ⟨E, hE, hM⟩ := hM
  have hl : E.length = C.length := by rw [← hE]; simp
  have hg := heap_ltM hM.blk
  have low : ∀ s : Sl, LsX w.heap.size w1 s → LsX (g + 1) w1 s := fun s hs => ⟨hs.1, fun hn => (hs.2 hn).lowerC (by omega)⟩
  have frs : ∀ s : Sl, LsX w.heap.size w1 s → ∀ t ∈ slots E, FarX t s := fun s hs => hM.cw.fresh s (by
    by_cases h0 : s.2 = []
    · exact .inl h0
    · right
      have hx := hs.2 h0
      rcases hx.2 with ⟨h1, h2⟩ | ⟨q, cap', cur, h1, h2, -⟩
      · exact absurd (List.length_eq_zero_iff.1 h2) h0
      · exact ⟨q, h2, by rw [h1]; rfl⟩)
  refine (specPut g nv v E op (Cp.bare n) un uk ud w1 (hM.below hb) (by omega) (low _ hn) (low _ hk) hf (fun s hs => ⟨frs _ hn s hs, frs _ hk s hs⟩) ⟨rfl, hd⟩).mono ?_
  rintro e w' ⟨rfl, v', hM', hE', hN'⟩
  exact ⟨by rw [hl], v', ⟨_, by rw [List.map_append, hE]; rfl, hM'⟩, Ef.ahead hb hE', Nw.ahead hb.size hN'⟩
/-- Where an instruction leads is told. -/
theorem specHereC (g a : Nat) (nv v : Value) (C : List Cd) (w : World) (hM : Mc 41 g nv v C w) (ha : a < C.length) :
    Calls Try.prog 32 #[.pointer (some ⟨g, 0, none⟩), .int .i64 a] w fun e w' => e = .returned (.tuple #[]) ∧ Rc 41 g nv v (Cp.pt C a (C.length : Int)) w w' := by
  obtain ⟨E, hE, hM⟩ := hM
  have hl : E.length = C.length := by rw [← hE]; simp
  refine (specHere g a nv v E w hM (by omega)).mono ?_
  rintro e w' ⟨rfl, v', hM', hE', hN'⟩
  exact ⟨rfl, v', ⟨_, by rw [toE_pt, hE, hl], hM'⟩, hE', hN'⟩
end Go.Proofs.Ytonnmbkfjiddnaa
