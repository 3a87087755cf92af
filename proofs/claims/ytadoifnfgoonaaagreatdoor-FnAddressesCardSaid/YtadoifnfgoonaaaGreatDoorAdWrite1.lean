
/- The tokens of what a list of addresses is written as. -/

/- What a list of addresses is written as: its bytes, its size, and how it is read. -/

/- The program's writer of addresses: what can be written. -/
import Derived.Test.YtadoifnfgoonaaaGreatDoorAdWords
namespace Go.Proofs.YtadoifnfgoonaaaGreatDoor
open Go.RowKit Go.Lib
abbrev bxT (b : Bx3) : List UInt8 := (boxT b.n b.l b.d).data.toList
/-- The members behind the first one; all of them. -/
def mtT (M : List Bx3) : List UInt8 := M.flatMap fun b => 44 :: 32 :: bxT b
def mbT : List Bx3 → List UInt8
  | [] => []
  | b :: M => 32 :: (bxT b ++ mtT M)
def bxOk (b : Bx3) : Bool := addrOk b.n b.l b.d
/-- An entry that can be written. -/
def enOk (e : En) : Bool := if e.grp then decide (e.nm.size ≠ 0) && (decide (e.nm.size ≤ 200) && (e.nm.data.toList.all Pl.tb && (decide (e.n.size = 0 ∧ e.l.size = 0 ∧ e.d.size = 0) && e.mem.all bxOk))) else addrOk e.n e.l e.d && (decide (e.nm.size = 0) && decide (e.mem.length = 0))
def enT (e : En) : List UInt8 := if e.grp then (phr e.nm).data.toList ++ 58 :: (mbT e.mem ++ [59]) else (boxT e.n e.l e.d).data.toList
def etT (E : List En) : List UInt8 := E.flatMap fun e => 44 :: 32 :: enT e
def esT : List En → List UInt8
  | [] => []
  | e :: E => enT e ++ etT E
set_option maxRecDepth 20000 in
theorem noAtom_cons (c : UInt8) (r : List UInt8) (h : Pl.atom c = false) : noAtom (c :: r) := fun d q e => by injection e with e _; rw [← e]; exact h
set_option maxRecDepth 20000 in
theorem noAtom_nil : noAtom [] := fun d q e => by cases e
set_option maxRecDepth 20000 in
theorem atom44 : Pl.atom 44 = false := by decide +kernel
set_option maxRecDepth 20000 in
theorem atom59 : Pl.atom 59 = false := by decide +kernel
set_option maxRecDepth 20000 in
theorem atom58 : Pl.atom 58 = false := by decide +kernel
set_option maxRecDepth 20000 in
theorem words_tail (r : List UInt8) (L : List (Nat × ByteArray)) (hL : Tt r L) : ∀ M : List Bx3, M.all bxOk = true → ∃ K, Mbk L K M ∧ Tt (mtT M ++ 59 :: r) K ∧ (hdT K = (5, ⟨#[44]⟩) ∨ hdT K = (5, ⟨#[59]⟩)) ∧ noAtom (mtT M ++ 59 :: r)
  | [], _ => ⟨_, .fin, .spec 59 _ _ (by decide) hL, .inr rfl, noAtom_cons _ _ atom59⟩
  | b :: M, h => by
    rw [List.all_cons, Bool.and_eq_true] at h
    obtain ⟨K, h1, h2, h3, h4⟩ := words_tail r L hL M h.2
    obtain ⟨K2, b1, b2⟩ := words_box b.n b.l b.d h.1 _ K h2 h4
    refine ⟨(5, ⟨#[44]⟩) :: K2, .comma _ _ (.box K2 K b M b1 h.1 h3 h1), ?_, .inl rfl, noAtom_cons _ _ atom44⟩
    have e : mtT (b :: M) ++ 59 :: r = 44 :: 32 :: (bxT b ++ (mtT M ++ 59 :: r)) := by simp [mtT]
    rw [e]
    exact .spec 44 _ _ (by decide) (.blank _ _ b2)
set_option maxRecDepth 20000 in
theorem words_members (r : List UInt8) (L : List (Nat × ByteArray)) (hL : Tt r L) (M : List Bx3) (h : M.all bxOk = true) : ∃ K, Mbk L K M ∧ Tt (mbT M ++ 59 :: r) K := by
  cases M with
  | nil => exact ⟨_, .fin, .spec 59 _ _ (by decide) hL⟩
  | cons b M =>
    rw [List.all_cons, Bool.and_eq_true] at h
    obtain ⟨K, h1, h2, h3, h4⟩ := words_tail r L hL M h.2
    obtain ⟨K2, b1, b2⟩ := words_box b.n b.l b.d h.1 _ K h2 h4
    refine ⟨K2, .box K2 K b M b1 h.1 h3 h1, ?_⟩
    have e : mbT (b :: M) ++ 59 :: r = 32 :: (bxT b ++ (mtT M ++ 59 :: r)) := by simp [mbT]
    rw [e]
    exact .blank _ _ b2
set_option maxRecDepth 20000 in
theorem empty_of (x : ByteArray) (h : x.size = 0) : x = ⟨#[]⟩ := by
  apply ByteArray.ext
  apply Array.toList_inj.1
  exact List.eq_nil_of_length_eq_zero (by simpa using h)
set_option maxRecDepth 20000 in
theorem words_entry (e : En) (he : enOk e = true) (r : List UInt8) (L : List (Nat × ByteArray)) (hL : Tt r L) (hr : noAtom r) : ∃ K, Enk L K e ∧ Tt (enT e ++ r) K := by
  obtain ⟨grp, nm, n, l, d, mem⟩ := e
  unfold enOk at he
  unfold enT
  cases grp with
  | true =>
    simp only [if_true, Bool.and_eq_true, decide_eq_true_eq] at he
    obtain ⟨h0, h1, h2, ⟨e1, e2, e3⟩, h4⟩ := he
    obtain rfl := empty_of n e1
    obtain rfl := empty_of l e2
    obtain rfl := empty_of d e3
    obtain ⟨K, k1, k2⟩ := words_members r L hL mem h4
    obtain ⟨P, p1, p2, p3, p4⟩ := words_phrase nm h2
    have hnl : nm.data.toList.length = nm.size := by simp
    refine ⟨_, .group P K nm mem p1 p2 (by rw [p3]; omega) (by rw [p3]) k1, ?_⟩
    have e : (phr nm).data.toList ++ 58 :: (mbT mem ++ [59]) ++ r = (phr nm).data.toList ++ (58 :: (mbT mem ++ 59 :: r)) := by simp
    show Tt ((phr nm).data.toList ++ 58 :: (mbT mem ++ [59]) ++ r) _
    rw [e]
    exact p4 _ _ (.spec 58 _ _ (by decide) k2) (noAtom_cons _ _ atom58)
  | false =>
    simp only [Bool.false_eq_true, if_false, Bool.and_eq_true, decide_eq_true_eq] at he
    obtain ⟨h1, h2, h3⟩ := he
    obtain rfl := empty_of nm h2
    obtain rfl := List.eq_nil_of_length_eq_zero h3
    obtain ⟨K, k1, k2⟩ := words_box n l d h1 r L hL hr
    exact ⟨K, .box K n l d k1 h1, k2⟩
set_option maxRecDepth 20000 in
theorem words_more : ∀ E : List En, E.all enOk = true → ∃ K, Lsk K E ∧ Tt (etT E) K ∧ (K = [] ∨ hdT K = (5, ⟨#[44]⟩)) ∧ noAtom (etT E)
  | [], _ => ⟨[], .nil, .nil, .inl rfl, noAtom_nil⟩
  | e :: E, h => by
    rw [List.all_cons, Bool.and_eq_true] at h
    obtain ⟨K, h1, h2, h3, h4⟩ := words_more E h.2
    obtain ⟨K2, b1, b2⟩ := words_entry e h.1 _ K h2 h4
    refine ⟨(5, ⟨#[44]⟩) :: K2, .comma _ _ (.entry K2 K e E b1 h3 h1), ?_, .inr rfl, noAtom_cons _ _ atom44⟩
    have q : etT (e :: E) = 44 :: 32 :: (enT e ++ etT E) := by simp [etT]
    rw [q]
    exact .spec 44 _ _ (by decide) (.blank _ _ b2)
set_option maxRecDepth 20000 in
theorem words_list (E : List En) (h : E.all enOk = true) (hne : E ≠ []) : ∃ K, Lsk K E ∧ Tt (esT E) K ∧ K ≠ [] := by
  cases E with
  | nil => exact absurd rfl hne
  | cons e E =>
    rw [List.all_cons, Bool.and_eq_true] at h
    obtain ⟨K, h1, h2, h3, h4⟩ := words_more E h.2
    obtain ⟨K2, b1, b2⟩ := words_entry e h.1 _ K h2 h4
    refine ⟨K2, .entry K2 K e E b1 h3 h1, b2, ?_⟩
    have := b1.shorter
    intro e2
    subst e2
    simp at this
/-- Bytes that a line may have. -/
def cl (l : List UInt8) : Prop := ∀ c ∈ l, (c == 13) = false ∧ Pl.lb c = true
set_option maxRecDepth 20000 in
theorem cl.app {a b : List UInt8} (h : cl a) (h2 : cl b) : cl (a ++ b) := fun c hc => (List.mem_append.1 hc).elim (h c) (h2 c)
set_option maxRecDepth 20000 in
theorem cl.cons {c : UInt8} {b : List UInt8} (h : (c == 13) = false ∧ Pl.lb c = true) (h2 : cl b) : cl (c :: b) := fun d hd => by
  rcases List.mem_cons.1 hd with rfl | hd
  · exact h
  · exact h2 d hd
set_option maxRecDepth 20000 in
theorem cl.nil : cl [] := fun _ h => absurd h List.not_mem_nil
set_option maxRecDepth 20000 in
theorem tb_cl (c : UInt8) (h : Pl.tb c = true) : (c == 13) = false ∧ Pl.lb c = true := by
  unfold Pl.tb at h
  rw [Bool.and_eq_true, decide_eq_true_eq] at h
  have n13 : (c == 13) = false := by
    cases e : (c == 13) with
    | false => rfl
    | true => rw [beq_iff_eq.1 e] at h; exact absurd h.1 (by decide)
  have n10 : (c == 10) = false := by
    cases e : (c == 10) with
    | false => rfl
    | true => rw [beq_iff_eq.1 e] at h; exact absurd h.1 (by decide)
  exact ⟨n13, by unfold Pl.lb; rw [n13, n10]; rfl⟩
set_option maxRecDepth 20000 in
theorem cl.tb {l : List UInt8} (h : l.all Pl.tb = true) : cl l := fun c hc => tb_cl c (List.all_eq_true.1 h c hc)
set_option maxRecDepth 20000 in
theorem cl.qs : ∀ {l : List UInt8}, cl l → cl (Pl.qs l)
  | [], _ => cl.nil
  | a :: r, h => by
    have ha := h a List.mem_cons_self
    have hr := cl.qs (l := r) (fun c hc => h c (List.mem_cons_of_mem _ hc))
    rw [Pl.qs]
    split
    · exact .cons (by decide) (.cons ha hr)
    · exact .cons ha hr
set_option maxRecDepth 20000 in
theorem atom_tb : ∀ n : Fin 256, Pl.atom (UInt8.ofNat n.val) = true → Pl.tb (UInt8.ofNat n.val) = true := by decide +kernel
set_option maxRecDepth 20000 in
theorem atom_cl (c : UInt8) (h : Pl.atom c = true) : (c == 13) = false ∧ Pl.lb c = true := by
  have := atom_tb ⟨c.toNat, UInt8.toNat_lt c⟩
  simp only [UInt8.ofNat_toNat] at this
  exact tb_cl c (this h)
set_option maxRecDepth 20000 in
theorem lit_tb : ∀ n : Fin 256, Pl.litB (UInt8.ofNat n.val) = true → Pl.tb (UInt8.ofNat n.val) = true := by decide +kernel
set_option maxRecDepth 20000 in
theorem lit_cl (c : UInt8) (h : Pl.litB c = true) : (c == 13) = false ∧ Pl.lb c = true := by
  have := lit_tb ⟨c.toNat, UInt8.toNat_lt c⟩
  simp only [UInt8.ofNat_toNat] at this
  exact tb_cl c (this h)
set_option maxRecDepth 20000 in
theorem scan_cl (d : UInt8) (hd : (d == 13) = false ∧ Pl.lb d = true) : ∀ (l : List UInt8) (b : Bool), Pl.scan d b l = true → cl l
  | [], _, _ => cl.nil
  | c :: r, b, h => by
    rw [Pl.scan] at h
    by_cases ha : Pl.atom c = true
    · rw [if_pos ha] at h
      exact .cons (atom_cl c ha) (scan_cl d hd r _ h)
    · rw [if_neg ha] at h
      by_cases hc : (c == d && b) = true
      · rw [if_pos hc] at h
        rw [Bool.and_eq_true] at hc
        have : c = d := by simpa using hc.1
        subst this
        exact .cons hd (scan_cl c hd r _ h)
      · rw [if_neg hc] at h
        cases h
end Go.Proofs.YtadoifnfgoonaaaGreatDoor
namespace Go.Proofs.YtadoifnfgoonaaaGreatDoor
open Go.RowKit Go.Lib
set_option maxRecDepth 20000 in
theorem dom_cl (l : List UInt8) (h : Pl.domI l = true) : cl l := by
  unfold Pl.domI at h
  rw [Bool.and_eq_true, Bool.or_eq_true] at h
  rcases h.2 with h | h
  · exact scan_cl 46 (by decide) l _ h
  · obtain ⟨M, hM, rfl⟩ := lit_form l h
    exact .cons (by decide) (.app (fun c hc => lit_cl c (List.all_eq_true.1 hM c hc)) (.cons (by decide) .nil))
set_option maxRecDepth 20000 in
theorem phr_cl (n : ByteArray) (h : n.data.toList.all Pl.tb = true) : cl (phr n).data.toList := by
  have hp : (phr n).data.toList = Pl.phrase n.data.toList := rfl
  rw [hp, Pl.phrase, if_pos h]
  split
  · exact cl.tb h
  · exact .cons (by decide) (.app (cl.tb h).qs (.cons (by decide) .nil))
set_option maxRecDepth 20000 in
theorem addrT_cl (l d : ByteArray) (hl : l.data.toList.all Pl.tb = true) (hd : Pl.domI d.data.toList = true) : cl (addrT l d).data.toList := by
  have e : (addrT l d).data.toList = (if Pl.scan 46 false l.data.toList then l else quo l).data.toList ++ (64 :: d.data.toList) := by
    unfold addrT
    simp [ByteArray.data_append]
  rw [e]
  refine .app ?_ (.cons (by decide) (dom_cl _ hd))
  split
  · exact cl.tb hl
  · show cl (34 :: Pl.qs l.data.toList ++ [34])
    exact .cons (by decide) (.app (cl.tb hl).qs (.cons (by decide) .nil))
set_option maxRecDepth 20000 in
theorem boxT_cl (n l d : ByteArray) (h : addrOk n l d = true) : cl (boxT n l d).data.toList := by
  have hk := h
  unfold addrOk at hk
  simp only [Bool.and_eq_true, decide_eq_true_eq] at hk
  obtain ⟨-, -, hltb, -, hntb, hdom⟩ := hk
  have hA := addrT_cl l d hltb hdom
  unfold boxT
  rw [if_pos h]
  split
  · exact hA
  · have e : (phr n ++ ⟨#[32, 60]⟩ ++ addrT l d ++ ⟨#[62]⟩).data.toList = (phr n).data.toList ++ (32 :: 60 :: ((addrT l d).data.toList ++ [62])) := by
      simp [ByteArray.data_append]
    rw [e]
    exact .app (phr_cl n hntb) (.cons (by decide) (.cons (by decide) (.app hA (.cons (by decide) .nil))))
set_option maxRecDepth 20000 in
theorem mtT_cl : ∀ M : List Bx3, M.all bxOk = true → cl (mtT M)
  | [], _ => cl.nil
  | b :: M, h => by
    rw [List.all_cons, Bool.and_eq_true] at h
    have e : mtT (b :: M) = 44 :: 32 :: (bxT b ++ mtT M) := by simp [mtT]
    rw [e]
    exact .cons (by decide) (.cons (by decide) (.app (boxT_cl _ _ _ h.1) (mtT_cl M h.2)))
set_option maxRecDepth 20000 in
theorem mbT_cl (M : List Bx3) (h : M.all bxOk = true) : cl (mbT M) := by
  cases M with
  | nil => exact cl.nil
  | cons b M =>
    rw [List.all_cons, Bool.and_eq_true] at h
    exact .cons (by decide) (.app (boxT_cl _ _ _ h.1) (mtT_cl M h.2))
set_option maxRecDepth 20000 in
theorem enT_cl (e : En) (h : enOk e = true) : cl (enT e) := by
  unfold enOk at h
  unfold enT
  split at h
  · rename_i hg
    rw [if_pos hg]
    simp only [Bool.and_eq_true, decide_eq_true_eq] at h
    obtain ⟨-, -, h2, -, h4⟩ := h
    exact .app (phr_cl _ h2) (.cons (by decide) (.app (mbT_cl _ h4) (.cons (by decide) .nil)))
  · rename_i hg
    rw [if_neg hg]
    rw [Bool.and_eq_true] at h
    exact boxT_cl _ _ _ h.1
set_option maxRecDepth 20000 in
theorem etT_cl : ∀ E : List En, E.all enOk = true → cl (etT E)
  | [], _ => cl.nil
  | e :: E, h => by
    rw [List.all_cons, Bool.and_eq_true] at h
    have q : etT (e :: E) = 44 :: 32 :: (enT e ++ etT E) := by simp [etT]
    rw [q]
    exact .cons (by decide) (.cons (by decide) (.app (enT_cl e h.1) (etT_cl E h.2)))
set_option maxRecDepth 20000 in
theorem esT_cl (E : List En) (h : E.all enOk = true) : cl (esT E) := by
  cases E with
  | nil => exact cl.nil
  | cons e E =>
    rw [List.all_cons, Bool.and_eq_true] at h
    exact .app (enT_cl e h.1) (etT_cl E h.2)
set_option maxRecDepth 20000 in
theorem clean_cl {s : ByteArray} (h : cl s.data.toList) : Clean s := fun i hi => h s[i] (by
  have : s.data.toList[i]'(by simpa using hi) = s[i] := Pl.at_list s i hi
  rw [← this]
  exact List.getElem_mem _)
set_option maxRecDepth 20000 in
/-- Reading what was written. -/
theorem implReadBack (E : List En) (t : ByteArray) (w : World) (hE : E.all enOk = true) (hne : E ≠ []) (ht : t = ⟨(esT E).toArray⟩) (hs : t.size ≤ 4000) (hc : cntS E ≤ 499) (hl : E.length ≤ 5000) (m : Int) (hm : w.cell? ⟨1, 0, none⟩ = some (.int .i64 m)) :
    Calls Tryz.prog 7 #[.string t] w fun e w' => ∃ v D, e = .returned (.agg #[.int .i64 0, .int .i64 0, v]) ∧ D.map (·.1) = E ∧ Ens w.heap.size v D w' ∧ Below w.heap.size w w' := by
  obtain ⟨K, h1, h2, h3⟩ := words_list E hE hne
  have htl : t.data.toList = esT E := by rw [ht]
  rw [← htl] at h2
  obtain ⟨T, t1, t2, t3⟩ := tt_read h2 hs
  refine implReadList t T E w hs (clean_cl (by rw [htl]; exact esT_cl E hE)) t1 t2 ?_ (by rw [t3]; exact h1) hc hl m hm
  intro e
  subst e
  exact h3 t3.symm
end Go.Proofs.YtadoifnfgoonaaaGreatDoor
namespace Go.Proofs.YtadoifnfgoonaaaGreatDoor
open Go.RowKit Go.Lib
/-- Boxes in memory, in a block below B. -/
def MemAt (B : Nat) (vo : Option Addr) (M : List Bx3) (w : World) : Prop := ∀ j (hj : j < M.length), ∃ gL, gL < B ∧ vo = some ⟨gL, 0, none⟩ ∧ w.cell? ⟨gL, j * 3, none⟩ = some (.string M[j].n) ∧ w.cell? ⟨gL, j * 3 + 1, none⟩ = some (.string M[j].l) ∧ w.cell? ⟨gL, j * 3 + 2, none⟩ = some (.string M[j].d)
set_option maxRecDepth 20000 in
theorem MemAt.keep {B : Nat} {vo : Option Addr} {M : List Bx3} {w w' : World} (h : MemAt B vo M w) (hb : Below B w w') : MemAt B vo M w' := fun j hj => by
  obtain ⟨gL, h1, h2, h3, h4, h5⟩ := h j hj
  exact ⟨gL, h1, h2, (hb.cell (p := ⟨gL, j * 3, none⟩) h1).trans h3, (hb.cell (p := ⟨gL, j * 3 + 1, none⟩) h1).trans h4, (hb.cell (p := ⟨gL, j * 3 + 2, none⟩) h1).trans h5⟩
/-- Small texts. -/
def Bx3.sm (b : Bx3) : Prop := b.n.size ≤ 1000 ∧ b.l.size ≤ 1000 ∧ b.d.size ≤ 1000
def En.sm (e : En) : Prop := e.nm.size ≤ 1000 ∧ (e.n.size ≤ 1000 ∧ e.l.size ≤ 1000 ∧ e.d.size ≤ 1000) ∧ e.mem.length ≤ 100 ∧ ∀ b ∈ e.mem, b.sm
set_option maxRecDepth 20000 in
theorem entry_cells {w : World} {g : Nat} {e : En} {v : Value} {ty : TypeId} {f : Nat × Nat} (h : w.heap[g]? = some (.cells #[.bool e.grp, .string e.nm, .string e.n, .string e.l, .string e.d, v] ty f)) : w.cell? ⟨g, 0, none⟩ = some (.bool e.grp) ∧ w.cell? ⟨g, 1, none⟩ = some (.string e.nm) ∧ w.cell? ⟨g, 2, none⟩ = some (.string e.n) ∧ w.cell? ⟨g, 3, none⟩ = some (.string e.l) ∧ w.cell? ⟨g, 4, none⟩ = some (.string e.d) ∧ w.cell? ⟨g, 5, none⟩ = some v := by
  refine ⟨?_, ?_, ?_, ?_, ?_, ?_⟩ <;> simp [World.cell?, h]
set_option maxRecDepth 20000 in
theorem toList_nil (x : ByteArray) (h : x.size = 0) : x.toList = [] := List.isEmpty_iff.1 (isEmpty_of x h)
set_option maxRecDepth 20000 in
theorem toList_ne (x : ByteArray) (h : ¬ x.size = 0) : ¬ x.toList = [] := fun e => by
  have := isEmpty_ne x h
  rw [e] at this
  cases this
set_option maxRecDepth 20000 in
theorem implBoxCount (e : En) (vo : Option Addr) (vc : Nat) (w : World) :
    Calls Tryz.prog 20 #[.agg #[.bool e.grp, .string e.nm, .string e.n, .string e.l, .string e.d, .slice vo e.mem.length vc]] w fun r w' => r = .returned (.int .i64 (e.cnt : Int)) ∧ Below w.heap.size w w' := by
  have hA : (w.alloc (.cells #[.bool e.grp, .string e.nm, .string e.n, .string e.l, .string e.d, .slice vo e.mem.length vc] 37)).heap[w.heap.size]? = some (.cells #[.bool e.grp, .string e.nm, .string e.n, .string e.l, .string e.d, .slice vo e.mem.length vc] 37 (0, 0)) := hp_alloc _ _
  obtain ⟨c0, -, -, -, -, c5⟩ := entry_cells hA
  have hb : Below w.heap.size w (w.alloc (.cells #[.bool e.grp, .string e.nm, .string e.n, .string e.l, .string e.d, .slice vo e.mem.length vc] 37)) := (Below.refl _ _).alloc (Nat.le_refl _) _
  have Hb := mkHid hb
  obtain ⟨c, hc⟩ : ∃ c : Int, c = (e.cnt : Int) := ⟨_, rfl⟩
  rw [← hc]
  unfold En.cnt at hc
  clear hA hb
  cases hg : e.grp with
  | true =>
    rw [hg, if_pos rfl] at hc
    rw [hg] at c0 c5
    subst hc
    go_enter Tryz.func20, Tryz.ntmps20
    go_wp2
    go_ret
    exact ⟨rfl, by have := Hb.out; rwa [hg] at this⟩
  | false =>
    rw [hg, if_neg (by simp)] at hc
    rw [hg] at c0 c5
    subst hc
    go_enter Tryz.func20, Tryz.ntmps20
    go_wp2
    go_ret
    exact ⟨rfl, by have := Hb.out; rwa [hg] at this⟩
set_option maxRecDepth 20000 in
set_option maxHeartbeats 8000000 in
theorem implIsEntry (e : En) (vo : Option Addr) (vc : Nat) (w : World) (hs : e.sm) (hM : MemAt w.heap.size vo e.mem w) (hvc : e.mem.length ≤ vc) (m : Int) (hm : w.cell? ⟨1, 0, none⟩ = some (.int .i64 m)) :
    Calls Tryz.prog 21 #[.agg #[.bool e.grp, .string e.nm, .string e.n, .string e.l, .string e.d, .slice vo e.mem.length vc]] w fun r w' => r = .returned (.bool (enOk e)) ∧ Below w.heap.size w w' := by
  have hml : 1 < w.heap.size := World.block_lt_of_cell? _ _ hm
  have hA : (w.alloc (.cells #[.bool e.grp, .string e.nm, .string e.n, .string e.l, .string e.d, .slice vo e.mem.length vc] 37)).heap[w.heap.size]? = some (.cells #[.bool e.grp, .string e.nm, .string e.n, .string e.l, .string e.d, .slice vo e.mem.length vc] 37 (0, 0)) := hp_alloc _ _
  have hb : Below w.heap.size w (w.alloc (.cells #[.bool e.grp, .string e.nm, .string e.n, .string e.l, .string e.d, .slice vo e.mem.length vc] 37)) := (Below.refl _ _).alloc (Nat.le_refl _) _
  obtain ⟨W, hW⟩ : ∃ W, W = w.alloc (.cells #[.bool e.grp, .string e.nm, .string e.n, .string e.l, .string e.d, .slice vo e.mem.length vc] 37) := ⟨_, rfl⟩
  rw [← hW] at hA hb
  have hmW := (hb.cell (p := ⟨1, 0, none⟩) hml).trans hm
  obtain ⟨ok, hok⟩ : ∃ ok, ok = enOk e := ⟨_, rfl⟩
  rw [← hok]
  obtain ⟨s1, ⟨s2, s3, s4⟩, s5, s6⟩ := hs
  have HM := mkHid (hM.keep hb)
  have Hb := mkHid hb
  have HA := mkHid hA
  have Hm : Hid (∀ V, Below w.heap.size w V → V.cell? ⟨1, 0, none⟩ = some (.int .i64 m)) := mkHid (fun V hV => (hV.cell (p := ⟨1, 0, none⟩) hml).trans hm)
  obtain ⟨grp, nm, n, l, d, mem⟩ := e
  simp only at s1 s2 s3 s4 s5 s6 hvc HM hW HA
  have HW := mkHid hW
  obtain ⟨c0, c1, c2, c3, c4, c5⟩ := entry_cells (e := ⟨grp, nm, n, l, d, mem⟩) HA.out
  simp only at c0 c1 c2 c3 c4 c5
  have hwW : w.heap.size < W.heap.size := hp_lt HA.out
  clear hM hm hA hb hmW
  cases grp with
  | false =>
    have hok' : ok = (addrOk n l d && (decide (nm.size = 0) && decide (mem.length = 0))) := hok
    have cF := mkHid (implAddress n l d m W (by omega) (by omega) (by omega) (Hm.out W Hb.out))
    rw [hW] at c0 c1 c2 c3 c4 c5
    clear hok hW
    by_cases h1 : nm.size = 0
    · have t1 : nm.toList.isEmpty = true := isEmpty_of nm h1
      by_cases h2 : mem.length = 0
      · have t2 : ((mem.length : Int) == 0) = true := by rw [h2]; rfl
        have hok2 : ok = addrOk n l d := by rw [hok', decide_eq_true h1, decide_eq_true h2]; simp
        clear h1 h2 hok'
        go_enter Tryz.func21, Tryz.ntmps21
        go_wp2_with fail
        rw [← HW.out]
        refine cF.out.mono ?_
        rintro r w1 ⟨rfl, hb1⟩
        have Hb1 := mkHid (Hb.out.trans (hb1.mono Hb.out.size))
        cases h3 : addrOk n l d with
        | true =>
          rw [h3] at hok2
          rw [show dcode true = 0 from rfl]
          subst hok2
          clear hb1
          go_wp2
          go_ret
          exact ⟨rfl, Hb1.out⟩
        | false =>
          rw [h3] at hok2
          rw [show dcode false = 1 from rfl]
          subst hok2
          clear hb1
          go_wp2
          go_ret
          exact ⟨rfl, Hb1.out⟩
      · have t2 : ((mem.length : Int) == 0) = false := beq_eq_false_iff_ne.2 (by omega)
        have hok2 : ok = false := by rw [hok', decide_eq_false h2]; simp
        subst hok2
        clear h1 h2 hok' cF
        go_enter Tryz.func21, Tryz.ntmps21
        go_wp2
        go_ret
        exact ⟨rfl, by rw [← HW.out]; exact Hb.out⟩
    · have t1 : nm.toList.isEmpty = false := isEmpty_ne nm h1
      have hok2 : ok = false := by rw [hok', decide_eq_false h1]; simp
      subst hok2
      clear h1 hok' cF
      go_enter Tryz.func21, Tryz.ntmps21
      go_wp2
      go_ret
      exact ⟨rfl, by rw [← HW.out]; exact Hb.out⟩
  | true =>
    have hok' : ok = (decide (nm.size ≠ 0) && (decide (nm.size ≤ 200) && (nm.data.toList.all Pl.tb && (decide (n.size = 0 ∧ l.size = 0 ∧ d.size = 0) && mem.all bxOk)))) := hok
    have Hok := mkHid hok'
    rw [hW] at c0 c5
    have HM2 := HM
    clear hok hok' hW HM c1 c2 c3 c4
    go_enter Tryz.func21, Tryz.ntmps21
    go_wp2
    rw [← HW.out]
    go_loopw [26] (fun v wr => ∃ j : Nat, v = .int .i64 (j : Int) ∧ j ≤ mem.length ∧ Hid ((mem.take j).all bxOk = true) ∧ Hid (Below W.heap.size W wr)) (fun v _ => mem.length - (Lib.intOf v).toNat)
    case atStart => exact ⟨0, rfl, Nat.zero_le _, rfl, Below.refl _ _⟩
    case round =>
      clear c0 c5 HW
      obtain ⟨j, rfl, hj, Hall, Hbr⟩ := hrel
      by_cases hlt : j < mem.length
      · have f1 : (j : Int) < (mem.length : Int) := by omega
        obtain ⟨gL, g1, g2, g3, g4, g5⟩ := (HM2.out.keep (Hbr.out.mono (Nat.le_of_lt hwW))) j hlt
        subst g2
        obtain ⟨b, hb⟩ : ∃ b, b = mem[j] := ⟨_, rfl⟩
        rw [← hb] at g3 g4 g5
        have hbs := s6 b (by rw [hb]; exact List.getElem_mem hlt)
        obtain ⟨W2, hW2⟩ : ∃ W2, W2 = wr.alloc (.cells #[.string b.n, .string b.l, .string b.d] 35) := ⟨_, rfl⟩
        have hb2 : Below wr.heap.size wr W2 := by rw [hW2]; exact (Below.refl _ _).alloc (Nat.le_refl _) _
        have hB2 : W2.heap[wr.heap.size]? = some (.cells #[.string b.n, .string b.l, .string b.d] 35 (0, 0)) := by rw [hW2]; exact hp_alloc _ _
        have hbW2 := Hbr.out.trans (hb2.mono Hbr.out.size)
        have cF := mkHid (implAddress b.n b.l b.d m W2 (by have := hbs.1; omega) (by have := hbs.2.1; omega) (by have := hbs.2.2; omega) (Hm.out W2 (Hb.out.trans (hbW2.mono (Nat.le_of_lt hwW)))))
        have Hb2 := mkHid hbW2
        have HB2 := mkHid hB2
        rw [hW2] at HB2
        have HW2 := mkHid hW2
        have Hbj := mkHid hb
        have hw1 : IntKind.i64.wrap ((j : Int) + 1) = ((j + 1 : Nat) : Int) := by
          unfold IntKind.wrap
          simp [IntKind.bits, IntKind.signed]
          omega
        clear hb hbs hb2 hB2 hbW2 hW2
        go_wp2_with (refine wpL_load_row rfl 35 _ rfl wr.heap.size #[.string b.n, .string b.l, .string b.d] 35 (0, 0) _ rfl HB2.out Tryz.underlying35 rfl (by kernel_rfl) ?_)
        rw [← HW2.out]
        refine cF.out.mono ?_
        rintro r w3 ⟨rfl, hb3⟩
        have Hb3 := mkHid (Hb2.out.trans (hb3.mono Hb2.out.size))
        clear cF hb3 HB2 HW2 Hb2
        cases h3 : addrOk b.n b.l b.d with
        | true =>
          rw [show dcode true = 0 from rfl]
          have Hall2 : Hid ((mem.take (j + 1)).all bxOk = true) := mkHid (by
            rw [List.take_add_one, List.getElem?_eq_getElem hlt, List.all_append, Hall.out, ← Hbj.out]
            simp [bxOk, h3])
          go_wp2
          refine ⟨⟨j + 1, by congr 1, by omega, Hall2, Hb3⟩, ?_⟩
          simp only [Lib.intOf]
          omega
        | false =>
          rw [show dcode false = 1 from rfl]
          have hok2 : ok = false := by
            have : mem.all bxOk = false := by
              rw [Bool.eq_false_iff]
              intro h5
              have h6 := List.all_eq_true.1 h5 mem[j] (List.getElem_mem hlt)
              rw [← Hbj.out, bxOk, h3] at h6
              cases h6
            rw [Hok.out, this]
            simp
          subst hok2
          go_wp2
          go_ret
          exact ⟨rfl, Hb.out.trans (Hb3.out.mono (Nat.le_of_lt hwW))⟩
      · have f1 : ¬ (j : Int) < (mem.length : Int) := by omega
        have hall : mem.all bxOk = true := by
          have h5 := Hall.out
          rwa [List.take_of_length_le (by omega)] at h5
        have hAr := (Hbr.out.block _ hwW).trans HA.out
        obtain ⟨-, d1, d2, d3, d4, -⟩ := entry_cells (e := ⟨true, nm, n, l, d, mem⟩) hAr
        simp only at d1 d2 d3 d4
        have Hbr2 := mkHid (Hb.out.trans (Hbr.out.mono (Nat.le_of_lt hwW)))
        have Hok2 : Hid (ok = (decide (nm.size ≠ 0) && (decide (nm.size ≤ 200) && (nm.data.toList.all Pl.tb && decide (n.size = 0 ∧ l.size = 0 ∧ d.size = 0))))) := mkHid (by rw [Hok.out, hall, Bool.and_true])
        clear hAr hall Hall Hbr HA Hok HM2 hj hlt
        by_cases h1 : nm.size = 0
        · have t1 : nm.toList.isEmpty = true := isEmpty_of nm h1
          have hok2 : ok = false := by rw [Hok2.out, decide_eq_false (by omega)]; simp
          subst hok2
          go_wp2
          go_ret
          exact ⟨rfl, Hbr2.out⟩
        · have t1 : nm.toList.isEmpty = false := isEmpty_ne nm h1
          have cN := mkHid (implIsName nm wr (by omega))
          go_wp2_with fail
          refine cN.out.mono ?_
          rintro r w4 ⟨rfl, hw4⟩
          subst hw4
          clear cN
          have Hok3 : Hid (ok = ((decide (nm.size ≤ 200) && nm.data.toList.all Pl.tb) && decide (n.size = 0 ∧ l.size = 0 ∧ d.size = 0))) := mkHid (by rw [Hok2.out, decide_eq_true (show nm.size ≠ 0 from h1), Bool.true_and, Bool.and_assoc])
          generalize (decide (nm.size ≤ 200) && nm.data.toList.all Pl.tb) = bn at Hok3 ⊢
          clear Hok2
          cases bn with
          | false =>
            have hok2 : ok = false := by rw [Hok3.out]; rfl
            subst hok2
            go_wp2
            go_ret
            exact ⟨rfl, Hbr2.out⟩
          | true =>
            by_cases z1 : n.size = 0
            · have e1 := toList_nil n z1
              by_cases z2 : l.size = 0
              · have e2 := toList_nil l z2
                by_cases z3 : d.size = 0
                · have e3 := toList_nil d z3
                  have hok2 : ok = true := by rw [Hok3.out, decide_eq_true ⟨z1, z2, z3⟩]; rfl
                  subst hok2
                  go_wp2
                  go_ret
                  exact ⟨rfl, Hbr2.out⟩
                · have e3 := toList_ne d z3
                  have hok2 : ok = false := by rw [Hok3.out, decide_eq_false (fun h => z3 h.2.2)]; rfl
                  subst hok2
                  go_wp2
                  go_ret
                  exact ⟨rfl, Hbr2.out⟩
              · have e2 := toList_ne l z2
                have hok2 : ok = false := by rw [Hok3.out, decide_eq_false (fun h => z2 h.2.1)]; rfl
                subst hok2
                go_wp2
                go_ret
                exact ⟨rfl, Hbr2.out⟩
            · have e1 := toList_ne n z1
              have hok2 : ok = false := by rw [Hok3.out, decide_eq_false (fun h => z1 h.1)]; rfl
              subst hok2
              go_wp2
              go_ret
              exact ⟨rfl, Hbr2.out⟩
end Go.Proofs.YtadoifnfgoonaaaGreatDoor
