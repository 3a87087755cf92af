
/- The program's HostsOf. -/

/- What an address stands for: nothing twice, no alias, and each stands for itself. -/

/- The specification's walk through aliases: what a step changes. -/
import Derived.Test.YtdjghniinnfncaaGreatDoorWriteHead
import Derived.Test.YtdjghniinnfncaaGreatDoorExSpec1
namespace Go.Proofs.YtdjghniinnfncaaGreatDoor
open Go.RowKit Go.Lib Go.Maps Go.Shelf Go.Sort
set_option maxRecDepth 20000 in
theorem implTooLongH (s : ByteArray) (w : World) (hs : s.size ≤ 100000) : Calls Tryz.prog 46 #[.string s] w fun e w' => e = .returned (.bool false) ∧ w = w' := by
  have h : ¬ (100000 : Int) < (s.size : Int) := by omega
  go_enter Tryz.func46, Tryz.ntmps46
  go_wp2
  go_ret
  exact ⟨rfl, rfl⟩
set_option maxRecDepth 20000 in
set_option maxHeartbeats 1000000 in
theorem implIsLongMx (m : GMx) (w : World) (hm : m.fits 100000) : Calls Tryz.prog 27 #[.agg #[.string m.domain, .int .i64 m.prefer, .string m.host]] w fun e w' => e = .returned (.bool false) ∧ Below w.heap.size w w' := by
  obtain ⟨V, hV⟩ : ∃ V, w.alloc (.cells #[.string m.domain, .int .i64 m.prefer, .string m.host] 58) = V := ⟨_, rfl⟩
  have bV : Below w.heap.size w V := by rw [← hV]; exact (Below.refl _ _).alloc (Nat.le_refl _) _
  have c1 := mkHid (fun W => implTooLongH m.domain W hm.1)
  have c2 := mkHid (fun W => implTooLongH m.host W hm.2)
  have HV := mkHid hV
  have HbV := mkHid bV
  clear hV bV
  go_enter Tryz.func27, Tryz.ntmps27
  go_wp2_with fail
  refine (c1.out _).mono ?_
  rintro e w1 ⟨rfl, rfl⟩
  go_wp2_with fail
  refine (c2.out _).mono ?_
  rintro e w1 ⟨rfl, rfl⟩
  go_wp2
  go_ret
  rw [HV.out]
  exact ⟨rfl, HbV.out⟩
set_option maxRecDepth 20000 in
set_option maxHeartbeats 2000000 in
theorem implIndexMx (o : Option Addr) (F : List GMx) (cap lo : Nat) (w : World) (hF : GMxsL lo w.heap.size w o F) (hl : F.length ≤ 1000) (hsz : ∀ t ∈ F, t.fits 100000) :
    Calls Tryz.prog 45 #[.slice o F.length cap, .func (.func 27) #[] #[]] w fun e w' => e = .returned (.int .i64 (-1)) ∧ Below w.heap.size w w' := by
  have hE : ∀ (args : Array Value) (w : World), (callFunc 27 args).run Tryz.prog w = .ok (.enter 27 args) w := Go.Proofs.enters_of Tryz.func27 (by kernel_rfl) rfl
  have HF := mkHid hF
  have Hsz := mkHid hsz
  clear hF hsz
  go_enter Tryz.func45, Tryz.ntmps45
  go_wp2
  go_loopw [5, 8] (fun _ iv wr => ∃ k : Nat, k ≤ F.length ∧ iv = .int .i64 k ∧ Hid (Below w.heap.size w wr)) (fun _ iv _ => F.length - (Lib.intOf iv).toNat)
  case atStart => exact ⟨0, Nat.zero_le _, rfl, Below.refl _ _⟩
  case round =>
    obtain ⟨k, hk, rfl, hB⟩ := hrel
    by_cases hlt : k < F.length
    · obtain ⟨a, rfl, ha1, ha2, hAt⟩ := (HF.out.below hB.out (Nat.le_refl _)) k hlt
      have cN := mkHid (implIsLongMx F[k] wr (Hsz.out _ (List.getElem_mem hlt)))
      have d0 := hAt.c0
      have d1 := hAt.c1
      have d2 := hAt.c2
      clear hAt
      generalize F[k] = x at *
      go_wp2_with fail
      refine cN.out.mono ?_
      rintro e w1 ⟨rfl, hb1⟩
      have hB1 := mkHid (hB.out.trans (hb1.mono hB.out.size))
      clear cN hb1 hB
      go_wp2
      go_roundw
      case rel => exact ⟨k + 1, by omega, by go_num, hB1⟩
      case measure => simp [Lib.intOf]; omega
    · go_wp2
      go_ret
      exact ⟨rfl, hB.out⟩
set_option maxRecDepth 20000 in
theorem implContainsMx (o : Option Addr) (F : List GMx) (cap lo : Nat) (w : World) (hF : GMxsL lo w.heap.size w o F) (hl : F.length ≤ 1000) (hsz : ∀ t ∈ F, t.fits 100000) :
    Calls Tryz.prog 26 #[.slice o F.length cap, .func (.func 27) #[] #[]] w fun e w' => e = .returned (.bool false) ∧ Below w.heap.size w w' := by
  have hI := mkHid (implIndexMx o F cap lo w hF hl hsz)
  clear hF hsz
  go_enter Tryz.func26, Tryz.ntmps26
  go_wp2_with fail
  refine hI.out.mono ?_
  rintro e w2 ⟨rfl, hb⟩
  go_wp2
  go_ret
  exact ⟨rfl, hb⟩
def Ho.low (d : ByteArray) : ByteArray := ⟨(lower d.data.toList).toArray⟩
set_option maxRecDepth 20000 in
set_option maxHeartbeats 4000000 in
theorem implHostsOf (o : Option Addr) (T : List GMx) (cap lo hi : Nat) (d : ByteArray) (w : World) (hT : T.length ≤ 100) (hc : GMxsL lo hi w o T) (hhi : hi ≤ w.heap.size) (hz : ∀ t ∈ T, t.fits 100000) (hd : d.size ≤ 255) :
    Calls Tryz.prog 9 #[.slice o T.length cap, .string d] w fun e w' => ∃ v, e = .returned v ∧ OwnX w.heap.size v (Ho.hosts (Ho.isOf (Ho.low d)) T d) w' ∧ Below w.heap.size w w' := by
  have cC := mkHid (implContainsMx o T cap lo w (hc.mono (Nat.le_refl _) hhi) (by omega) hz)
  have cI := mkHid (fun W (hb : Below w.heap.size w W) => implHostsIn o T cap lo hi (Ho.low d) W (by omega) (hc.below hb hhi) (Nat.le_trans hhi hb.size) hz)
  have cL := mkHid (fun W => implLowered d W (by omega))
  have cN := mkHid (fun W => libClone d W (by omega))
  have e1 : ¬ (100 : Int) < (T.length : Int) := by omega
  have e2 : ¬ (255 : Int) < (d.size : Int) := by omega
  clear hc hz
  obtain ⟨Z, hZ⟩ : ∃ Z, Ho.hosts (Ho.isOf (Ho.low d)) T d = Z := ⟨_, rfl⟩
  rw [hZ]
  unfold Ho.hosts at hZ
  obtain ⟨R, hR⟩ : ∃ R, Ho.once (Ho.sorted (Ho.isOf (Ho.low d)) T) = R := ⟨_, rfl⟩
  rw [hR] at hZ cI
  clear hR
  replace hZ := mkHid hZ
  go_enter Tryz.func9, Tryz.ntmps9
  go_wp2_with fail
  refine cC.out.mono ?_
  rintro e w1 ⟨rfl, hb1⟩
  have Hb1 := mkHid hb1
  clear hb1 cC
  go_wp2_with fail
  refine (cL.out _).mono ?_
  rintro e w2 ⟨rfl, hb2⟩
  have Hb2 := mkHid (Hb1.out.trans (hb2.mono Hb1.out.size))
  clear hb2 cL Hb1
  go_wp2_with fail
  refine (cI.out w2 Hb2.out).mono ?_
  rintro e w3 ⟨o3, c3, rfl, hO3, hb3⟩
  have Hb3 := mkHid (Hb2.out.trans (hb3.mono Hb2.out.size))
  have HO3 := mkHid (hO3.base Hb2.out.size)
  clear hb3 hO3 cI Hb2
  by_cases hRe : R = []
  · subst hRe
    have hz : Hid ([d] = Z) := by have := hZ.out; rw [if_pos rfl] at this; exact this
    clear hZ
    go_wp2_with fail
    refine (cN.out _).mono ?_
    rintro e w4 ⟨rfl, hb4⟩
    have Hb4 := mkHid (Hb3.out.trans (hb4.mono Hb3.out.size))
    clear hb4 cN Hb3
    go_wp2
    go_ret
    rw [← hz.out]
    exact ⟨_, rfl, ⟨by simp [strCellsX], .inr ⟨w4.heap.size, 1, #[.string d], rfl, Hb4.out.size, World.alloc_heap_new w4 _, by simp, by decide, by simp, by simp [strCellsX]⟩⟩, Hb4.out.alloc Hb4.out.size _⟩
  · have hz : Hid (R = Z) := by have := hZ.out; rw [if_neg hRe] at this; exact this
    clear hZ
    have hpos : 0 < R.length := List.length_pos_iff.2 hRe
    go_wp2
    go_ret
    rw [← hz.out]
    exact ⟨_, rfl, HO3.out, Hb3.out⟩
end Go.Proofs.YtdjghniinnfncaaGreatDoor
namespace Go.Proofs.YtdjghniinnfncaaGreatDoor
open Go.RowKit Go.Lib
namespace Ex
structure Good (A : List GAlias) (s : St) : Prop where
  nodup : s.out.Nodup
  none : ∀ t ∈ s.out, find A t = none
  ok : ∀ t ∈ s.out, Ky.ok t = true
set_option maxRecDepth 20000 in
theorem add_good {A : List GAlias} {s : St} {k : ByteArray} (h : Good A s) (hk : find A k = none) (ho : Ky.ok k = true) : Good A (add s k).1 := by
  unfold add
  split
  · exact h
  · rename_i hn
    split
    · exact h
    · have hn' : k ∉ s.out := (isIn_no _ _).1 (by simpa using hn)
      refine ⟨?_, ?_, ?_⟩
      · show (s.out ++ [k]).Nodup
        rw [List.nodup_append]
        refine ⟨h.nodup, by simp, ?_⟩
        intro a ha b hb e
        simp only [List.mem_cons, List.not_mem_nil, or_false] at hb
        subst hb
        subst e
        exact hn' ha
      · intro t ht
        rcases List.mem_append.1 ht with ht | ht
        · exact h.none t ht
        · simp only [List.mem_cons, List.not_mem_nil, or_false] at ht
          subst ht
          exact hk
      · intro t ht
        rcases List.mem_append.1 ht with ht | ht
        · exact h.ok t ht
        · simp only [List.mem_cons, List.not_mem_nil, or_false] at ht
          subst ht
          exact ho
set_option maxRecDepth 20000 in
theorem all_good {A : List GAlias} {f : St → ByteArray → St × Int} (hf : ∀ s k, Good A s → Ky.ok k = true → Good A (f s k).1) : ∀ (l : List ByteArray) (s : St), Good A s → (∀ t ∈ l, Ky.ok t = true) → Good A (all f s l).1
  | [], _, h, _ => h
  | k :: r, s, h, hl => by
    have h1 := hf s k h (hl k List.mem_cons_self)
    rw [all]
    split
    · exact all_good hf r _ h1 (fun t ht => hl t (List.mem_cons_of_mem _ ht))
    · exact h1
set_option maxRecDepth 20000 in
theorem asok_to {A : List GAlias} (h : Ky.asok A = true) {k : ByteArray} {al : GAlias} (hf : find A k = some al) : ∀ t ∈ al.toF, Ky.ok t = true := by
  unfold Ky.asok at h
  rw [Bool.and_eq_true, List.all_eq_true] at h
  have h2 := h.2 al (find_mem A k al hf).1
  unfold Ky.aok at h2
  rw [Bool.and_eq_true, Bool.and_eq_true, List.all_eq_true] at h2
  exact h2.2.2
set_option maxRecDepth 20000 in
theorem go_good {A : List GAlias} (hA : Ky.asok A = true) : ∀ (n : Nat) (way : List ByteArray) (s : St) (k : ByteArray), Good A s → Ky.ok k = true → Good A (go A n way s k).1
  | 0, way, s, k, h, ho => by
    rw [go]
    split
    · rename_i hf
      exact add_good h hf ho
    · split
      · exact h
      · split <;> exact h
  | n + 1, way, s, k, h, ho => by
    rw [go]
    split
    · rename_i hf
      exact add_good h hf ho
    · rename_i al hf
      split
      · exact h
      · split
        · exact h
        · have := all_good (f := go A n (way ++ [k])) (fun s k' hs hk => go_good hA n (way ++ [k]) s k' hs hk) al.toF s h (asok_to hA hf)
          exact ⟨this.nodup, this.none, this.ok⟩
set_option maxRecDepth 20000 in
theorem ans_good (A : List GAlias) (k : ByteArray) : (ans A k).2.Nodup ∧ ∀ t ∈ (ans A k).2, find A t = none ∧ Ky.ok t = true ∧ Ky.asok A = true := by
  unfold ans
  split
  · rename_i h
    rw [Bool.and_eq_true] at h
    have hg : Good A (run A [k]).1 := all_good (fun s k hs hk => go_good h.1 20 [] s k hs hk) [k] ⟨[], []⟩ ⟨List.nodup_nil, fun t ht => by simp at ht, fun t ht => by simp at ht⟩ (fun t ht => by
      simp only [List.mem_cons, List.not_mem_nil, or_false] at ht
      subst ht
      exact h.2)
    dsimp only
    split
    · exact ⟨hg.nodup, fun t ht => ⟨hg.none t ht, hg.ok t ht, h.1⟩⟩
    · exact ⟨List.nodup_nil, fun t ht => by simp at ht⟩
  · exact ⟨List.nodup_nil, fun t ht => by simp at ht⟩
set_option maxRecDepth 20000 in
theorem ans_self (A : List GAlias) (t : ByteArray) (h1 : find A t = none) (h2 : Ky.ok t = true) (h3 : Ky.asok A = true) : ans A t = (0, [t]) := by
  have hr : run A [t] = (⟨[t], []⟩, 0) := by
    unfold run
    rw [all]
    have : go A 20 [] ⟨[], []⟩ t = (⟨[t], []⟩, 0) := by
      rw [go, h1]
      rfl
    rw [this]
    rfl
  unfold ans
  rw [h2, h3, hr]
  rfl
set_option maxRecDepth 20000 in
theorem find_none_all {A : List GAlias} {t : ByteArray} (h : find A t = none) (j : Nat) (hj : j < A.length) : same A[j].name t = false := by
  unfold find at h
  rw [List.find?_eq_none] at h
  have := h A[j] (List.getElem_mem hj)
  simpa using this
set_option maxRecDepth 20000 in
theorem ans_first (A : List GAlias) (k : ByteArray) : (ans A k).2.length ≤ 200 ∨ True := .inr trivial
end Ex
end Go.Proofs.YtdjghniinnfncaaGreatDoor
namespace Go.Proofs.YtdjghniinnfncaaGreatDoor
open Go.RowKit Go.Lib Go.Maps
/-- The specification's walk in memory. -/
structure Sp (g lo hi : Nat) (oa : Option Addr) (ca : Nat) (A : List GAlias) (way : List ByteArray) (s : Ex.St) (code : Int) (w : World) : Prop where
  blk : ∃ o1 c1 o2 c2 o3 c3, w.heap[g]? = some (.cells #[.slice oa A.length ca, .slice o1 s.out.length c1, .slice o2 way.length c2, .slice o3 s.past.length c3, .int .i64 code] 81 (0, 0)) ∧
    OwnX (g + 1) (.slice o1 s.out.length c1) s.out w ∧ OwnX (g + 1) (.slice o2 way.length c2) way w ∧ OwnX (g + 1) (.slice o3 s.past.length c3) s.past w ∧
    Apart (.slice o1 s.out.length c1) (.slice o2 way.length c2) ∧ Apart (.slice o1 s.out.length c1) (.slice o3 s.past.length c3) ∧ Apart (.slice o2 way.length c2) (.slice o3 s.past.length c3)
  als : GAliassL lo hi w oa A
set_option maxRecDepth 20000 in
theorem frozen5 {w : World} {g : Nat} {cs : Array Value} {t : TypeId} (h : w.heap[g]? = some (.cells cs t (0, 0))) (j : Nat) : w.frozen? ⟨g, j, none⟩ = false := by simp [World.frozen?, h]
set_option maxRecDepth 20000 in
theorem set5_1 {w : World} {g : Nat} {a b c d e : Value} {t : TypeId} (h : w.heap[g]? = some (.cells #[a, b, c, d, e] t (0, 0))) (v : Value) : (w.setCell ⟨g, 1, none⟩ v).heap[g]? = some (.cells #[a, v, c, d, e] t (0, 0)) := by
  simp [World.setCell, Array.getElem?_modify, h]
set_option maxRecDepth 20000 in
theorem set5_2 {w : World} {g : Nat} {a b c d e : Value} {t : TypeId} (h : w.heap[g]? = some (.cells #[a, b, c, d, e] t (0, 0))) (v : Value) : (w.setCell ⟨g, 2, none⟩ v).heap[g]? = some (.cells #[a, b, v, d, e] t (0, 0)) := by
  simp [World.setCell, Array.getElem?_modify, h]
set_option maxRecDepth 20000 in
theorem set5_3 {w : World} {g : Nat} {a b c d e : Value} {t : TypeId} (h : w.heap[g]? = some (.cells #[a, b, c, d, e] t (0, 0))) (v : Value) : (w.setCell ⟨g, 3, none⟩ v).heap[g]? = some (.cells #[a, b, c, v, e] t (0, 0)) := by
  simp [World.setCell, Array.getElem?_modify, h]
set_option maxRecDepth 20000 in
theorem below_set (w : World) (g j : Nat) (v : Value) : Below g w (w.setCell ⟨g, j, none⟩ v) := (Below.refl g w).setCell (p := ⟨g, j, none⟩) (Nat.le_refl _) v
set_option maxRecDepth 20000 in
theorem Sp.lt {g lo hi : Nat} {oa : Option Addr} {ca : Nat} {A : List GAlias} {way : List ByteArray} {s : Ex.St} {code : Int} {w : World} (h : Sp g lo hi oa ca A way s code w) : g < w.heap.size := by
  obtain ⟨o1, c1, o2, c2, o3, c3, h1, -⟩ := h.blk
  exact heap_lt h1
set_option maxRecDepth 20000 in
theorem Sp.setCode {g lo hi : Nat} {oa : Option Addr} {ca : Nat} {A : List GAlias} {way : List ByteArray} {s : Ex.St} {code : Int} {w : World} (h : Sp g lo hi oa ca A way s code w) (hh : hi ≤ g) (c : Int) : Sp g lo hi oa ca A way s c (w.setCell ⟨g, 4, none⟩ (.int .i64 c)) := by
  obtain ⟨o1, c1, o2, c2, o3, c3, h1, q1, q2, q3, a1, a2, a3⟩ := h.blk
  have hs := gr_setX w g 4 (.int .i64 c)
  exact ⟨⟨o1, c1, o2, c2, o3, c3, set5 h1 _, q1.keep hs (own_ne q1 (by omega)), q2.keep hs (own_ne q2 (by omega)), q3.keep hs (own_ne q3 (by omega)), a1, a2, a3⟩, h.als.below (below_set w g 4 _) hh⟩
set_option maxRecDepth 20000 in
/-- A row grows: another one is as it was, and apart from it. -/
theorem app_apart {B : Nat} {v v' u : Value} {D : List ByteArray} {w w' : World} {ob : Obj} (hu : OwnX B u D w) (ha : Apart v u) (hg : (w.alloc ob).grownBy w' v.ownBlock) (hv : v'.ownBlock = v.ownBlock ∨ v'.ownBlock = some (w.alloc ob).heap.size) : OwnX B u D w' ∧ Apart v' u := by
  have hb : Below w.heap.size w (w.alloc ob) := (Below.refl _ _).alloc (Nat.le_refl _) _
  refine ⟨(hu.below hb).keep hg ha.symm.keep, ?_⟩
  intro k hk e
  rcases hv with hv | hv
  · exact ha k (hv ▸ hk) e
  · rw [hv] at hk
    injection hk with hk
    have := (World.ownsRow.lt hu k e).2
    simp at hk
    omega
set_option maxRecDepth 20000 in
theorem below_app {g B : Nat} {v : Value} {C : List ByteArray} {w w' : World} {ob : Obj} (hg : g < w.heap.size) (ho : OwnX B v C w) (hB : g < B) (hgr : (w.alloc ob).grownBy w' v.ownBlock) : Below (g + 1) w w' := by
  have hb : Below w.heap.size w (w.alloc ob) := (Below.refl _ _).alloc (Nat.le_refl _) _
  exact (hb.mono (show g + 1 ≤ w.heap.size by omega)).grown hgr (by have := hb.size; omega) (fun j hj => by have := (World.ownsRow.lt ho j hj).1; omega)
set_option maxRecDepth 20000 in
/-- Behind an append to one of the three rows, and the store of it. -/
theorem Sp.appOut {g lo hi : Nat} {oa : Option Addr} {ca : Nat} {A : List GAlias} {way : List ByteArray} {s : Ex.St} {code : Int} {w w' : World} {ob : Obj} {o1 o2 o3 o' : Option Addr} {c1 c2 c3 c' : Nat} {k : ByteArray} (hh : hi ≤ g) (hal : GAliassL lo hi w oa A)
    (h1 : w.heap[g]? = some (.cells #[.slice oa A.length ca, .slice o1 s.out.length c1, .slice o2 way.length c2, .slice o3 s.past.length c3, .int .i64 code] 81 (0, 0)))
    (q1 : OwnX (g + 1) (.slice o1 s.out.length c1) s.out w) (q2 : OwnX (g + 1) (.slice o2 way.length c2) way w) (q3 : OwnX (g + 1) (.slice o3 s.past.length c3) s.past w) (a1 : Apart (.slice o1 s.out.length c1) (.slice o2 way.length c2)) (a2 : Apart (.slice o1 s.out.length c1) (.slice o3 s.past.length c3)) (a3 : Apart (.slice o2 way.length c2) (.slice o3 s.past.length c3))
    (hg : (w.alloc ob).grownBy w' (Value.slice o1 s.out.length c1).ownBlock) (hv : (Value.slice o' (s.out ++ [k]).length c').ownBlock = (Value.slice o1 s.out.length c1).ownBlock ∨ (Value.slice o' (s.out ++ [k]).length c').ownBlock = some (w.alloc ob).heap.size) (hown : OwnX (g + 1) (.slice o' (s.out ++ [k]).length c') (s.out ++ [k]) w') :
    (w'.cell? ⟨g, 1, none⟩ = some (.slice o1 s.out.length c1) ∧ w'.frozen? ⟨g, 1, none⟩ = false) ∧ Sp g lo hi oa ca A way ⟨s.out ++ [k], s.past⟩ code (w'.setCell ⟨g, 1, none⟩ (.slice o' (s.out ++ [k]).length c')) ∧ Below g w (w'.setCell ⟨g, 1, none⟩ (.slice o' (s.out ++ [k]).length c')) := by
  have hl := heap_lt h1
  have hb := below_app hl q1 (Nat.lt_succ_self g) hg
  have h1' := (hb.block g (Nat.lt_succ_self g)).trans h1
  obtain ⟨r2, b1⟩ := app_apart q2 a1 hg hv
  obtain ⟨r3, b2⟩ := app_apart q3 a2 hg hv
  have hs := gr_setX w' g 1 (.slice o' (s.out ++ [k]).length c')
  have hbs := below_set w' g 1 (.slice o' (s.out ++ [k]).length c')
  have hbg := (hb.mono (Nat.le_succ g)).trans hbs
  exact ⟨⟨(cells5 h1').2.1, frozen5 h1' 1⟩, ⟨⟨o', c', o2, c2, o3, c3, set5_1 h1' _, hown.keep hs (own_ne hown (by omega)), r2.keep hs (own_ne r2 (by omega)), r3.keep hs (own_ne r3 (by omega)), b1, b2, a3⟩, hal.below hbg hh⟩, hbg⟩
set_option maxRecDepth 20000 in
theorem Sp.appWay {g lo hi : Nat} {oa : Option Addr} {ca : Nat} {A : List GAlias} {way : List ByteArray} {s : Ex.St} {code : Int} {w w' : World} {ob : Obj} {o1 o2 o3 o' : Option Addr} {c1 c2 c3 c' : Nat} {k : ByteArray} (hh : hi ≤ g) (hal : GAliassL lo hi w oa A)
    (h1 : w.heap[g]? = some (.cells #[.slice oa A.length ca, .slice o1 s.out.length c1, .slice o2 way.length c2, .slice o3 s.past.length c3, .int .i64 code] 81 (0, 0)))
    (q1 : OwnX (g + 1) (.slice o1 s.out.length c1) s.out w) (q2 : OwnX (g + 1) (.slice o2 way.length c2) way w) (q3 : OwnX (g + 1) (.slice o3 s.past.length c3) s.past w) (a1 : Apart (.slice o1 s.out.length c1) (.slice o2 way.length c2)) (a2 : Apart (.slice o1 s.out.length c1) (.slice o3 s.past.length c3)) (a3 : Apart (.slice o2 way.length c2) (.slice o3 s.past.length c3))
    (hg : (w.alloc ob).grownBy w' (Value.slice o2 way.length c2).ownBlock) (hv : (Value.slice o' (way ++ [k]).length c').ownBlock = (Value.slice o2 way.length c2).ownBlock ∨ (Value.slice o' (way ++ [k]).length c').ownBlock = some (w.alloc ob).heap.size) (hown : OwnX (g + 1) (.slice o' (way ++ [k]).length c') (way ++ [k]) w') :
    (w'.cell? ⟨g, 2, none⟩ = some (.slice o2 way.length c2) ∧ w'.frozen? ⟨g, 2, none⟩ = false) ∧ Sp g lo hi oa ca A (way ++ [k]) s code (w'.setCell ⟨g, 2, none⟩ (.slice o' (way ++ [k]).length c')) ∧ Below g w (w'.setCell ⟨g, 2, none⟩ (.slice o' (way ++ [k]).length c')) := by
  have hl := heap_lt h1
  have hb := below_app hl q2 (Nat.lt_succ_self g) hg
  have h1' := (hb.block g (Nat.lt_succ_self g)).trans h1
  obtain ⟨r1, b1⟩ := app_apart q1 a1.symm hg hv
  obtain ⟨r3, b3⟩ := app_apart q3 a3 hg hv
  have hs := gr_setX w' g 2 (.slice o' (way ++ [k]).length c')
  have hbs := below_set w' g 2 (.slice o' (way ++ [k]).length c')
  have hbg := (hb.mono (Nat.le_succ g)).trans hbs
  exact ⟨⟨(cells5 h1').2.2.1, frozen5 h1' 2⟩, ⟨⟨o1, c1, o', c', o3, c3, set5_2 h1' _, r1.keep hs (own_ne r1 (by omega)), hown.keep hs (own_ne hown (by omega)), r3.keep hs (own_ne r3 (by omega)), b1.symm, a2, b3⟩, hal.below hbg hh⟩, hbg⟩
set_option maxRecDepth 20000 in
theorem Sp.appPast {g lo hi : Nat} {oa : Option Addr} {ca : Nat} {A : List GAlias} {way : List ByteArray} {s : Ex.St} {code : Int} {w w' : World} {ob : Obj} {o1 o2 o3 o' : Option Addr} {c1 c2 c3 c' : Nat} {k : ByteArray} (hh : hi ≤ g) (hal : GAliassL lo hi w oa A)
    (h1 : w.heap[g]? = some (.cells #[.slice oa A.length ca, .slice o1 s.out.length c1, .slice o2 way.length c2, .slice o3 s.past.length c3, .int .i64 code] 81 (0, 0)))
    (q1 : OwnX (g + 1) (.slice o1 s.out.length c1) s.out w) (q2 : OwnX (g + 1) (.slice o2 way.length c2) way w) (q3 : OwnX (g + 1) (.slice o3 s.past.length c3) s.past w) (a1 : Apart (.slice o1 s.out.length c1) (.slice o2 way.length c2)) (a2 : Apart (.slice o1 s.out.length c1) (.slice o3 s.past.length c3)) (a3 : Apart (.slice o2 way.length c2) (.slice o3 s.past.length c3))
    (hg : (w.alloc ob).grownBy w' (Value.slice o3 s.past.length c3).ownBlock) (hv : (Value.slice o' (s.past ++ [k]).length c').ownBlock = (Value.slice o3 s.past.length c3).ownBlock ∨ (Value.slice o' (s.past ++ [k]).length c').ownBlock = some (w.alloc ob).heap.size) (hown : OwnX (g + 1) (.slice o' (s.past ++ [k]).length c') (s.past ++ [k]) w') :
    (w'.cell? ⟨g, 3, none⟩ = some (.slice o3 s.past.length c3) ∧ w'.frozen? ⟨g, 3, none⟩ = false) ∧ Sp g lo hi oa ca A way ⟨s.out, s.past ++ [k]⟩ code (w'.setCell ⟨g, 3, none⟩ (.slice o' (s.past ++ [k]).length c')) ∧ Below g w (w'.setCell ⟨g, 3, none⟩ (.slice o' (s.past ++ [k]).length c')) := by
  have hl := heap_lt h1
  have hb := below_app hl q3 (Nat.lt_succ_self g) hg
  have h1' := (hb.block g (Nat.lt_succ_self g)).trans h1
  obtain ⟨r1, b1⟩ := app_apart q1 a2.symm hg hv
  obtain ⟨r2, b2⟩ := app_apart q2 a3.symm hg hv
  have hs := gr_setX w' g 3 (.slice o' (s.past ++ [k]).length c')
  have hbs := below_set w' g 3 (.slice o' (s.past ++ [k]).length c')
  have hbg := (hb.mono (Nat.le_succ g)).trans hbs
  exact ⟨⟨(cells5 h1').2.2.2.1, frozen5 h1' 3⟩, ⟨⟨o1, c1, o2, c2, o', c', set5_3 h1' _, r1.keep hs (own_ne r1 (by omega)), r2.keep hs (own_ne r2 (by omega)), hown.keep hs (own_ne hown (by omega)), a1, b1.symm, b2.symm⟩, hal.below hbg hh⟩, hbg⟩
set_option maxRecDepth 20000 in
/-- The way's last one is cut off. -/
theorem Sp.cutWay {g lo hi : Nat} {oa : Option Addr} {ca : Nat} {A : List GAlias} {way : List ByteArray} {s : Ex.St} {code : Int} {w : World} {o1 o2 o3 : Option Addr} {c1 c2 c3 : Nat} {k : ByteArray} (hh : hi ≤ g) (hal : GAliassL lo hi w oa A)
    (h1 : w.heap[g]? = some (.cells #[.slice oa A.length ca, .slice o1 s.out.length c1, .slice o2 (way ++ [k]).length c2, .slice o3 s.past.length c3, .int .i64 code] 81 (0, 0)))
    (q1 : OwnX (g + 1) (.slice o1 s.out.length c1) s.out w) (q2 : OwnX (g + 1) (.slice o2 (way ++ [k]).length c2) (way ++ [k]) w) (q3 : OwnX (g + 1) (.slice o3 s.past.length c3) s.past w) (a1 : Apart (.slice o1 s.out.length c1) (.slice o2 (way ++ [k]).length c2)) (a2 : Apart (.slice o1 s.out.length c1) (.slice o3 s.past.length c3)) (a3 : Apart (.slice o2 (way ++ [k]).length c2) (.slice o3 s.past.length c3)) :
    Sp g lo hi oa ca A way s code (w.setCell ⟨g, 2, none⟩ (.slice o2 way.length c2)) := by
  have hs := gr_setX w g 2 (.slice o2 way.length c2)
  have hq := q2.cut (m := way.length) rfl
  exact ⟨⟨o1, c1, o2, c2, o3, c3, set5_2 h1 _, q1.keep hs (own_ne q1 (by omega)), hq.keep hs (own_ne hq (by omega)), q3.keep hs (own_ne q3 (by omega)), by cases o2 <;> exact a1, a2, by cases o2 <;> exact a3⟩, hal.below (below_set w g 2 _) hh⟩
end Go.Proofs.YtdjghniinnfncaaGreatDoor
