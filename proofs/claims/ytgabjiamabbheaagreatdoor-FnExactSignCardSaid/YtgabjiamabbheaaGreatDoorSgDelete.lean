/- slices.Clone at a list of fields, at this translation. -/

/- A list of fields copied: slices.Clone. -/

/- A field taken off a list: slices.Delete of one. -/
import Derived.Shelf.SlicesE.Clone
import Derived.Ground.SlgnProg
import Derived.Test.YtgabjiamabbheaaGreatDoorProg
import Derived.Test.YtgabjiamabbheaaGreatDoorOwnF
import Derived.Test.YtgabjiamabbheaaGreatDoorWriteHead
import Derived.Test.YtgabjiamabbheaaGreatDoorReadImpl
import Derived.Deep.OwnRows
import Derived.Lib.LazyBuf
import Derived.Lib.SliceRun
import Derived.Deep.RegionLaw
import Derived.ArgAppend
import Derived.Shelf.RegionOpenPlain
import Derived.Deep.LoopGhost
import Derived.Lib.Walk
namespace Go.Proofs
open Go.Shelf
def Tryz.cloneFd_ren : Go.Shelf.Ren := ⟨fun | 41 => 64 | n => n, fun | 22 => 37 | 23 => 51 | 4 => 4 | n => n, fun | n => n⟩
theorem Tryz.cloneFd : Go.Proofs.SlLaysE0.n41 Tryz.prog Tryz.cloneFd_ren := {
  mixed := by kernel_rfl
  f41 := ⟨Tryz.f64.name, by decide, Tryz.func64.trans (congrArg some (by kernel_rfl))⟩
  t4 := Tryz.underlying4
  a4 := Tryz.isAgg4
  z4 := Tryz.sizeOf4
  v4 := Tryz.zeroValue4
  t22 := Tryz.underlying37
  a22 := Tryz.isAgg37
  z22 := Tryz.sizeOf37
  v22 := Tryz.zeroValue37 }
end Go.Proofs
namespace Go.Proofs.YtgabjiamabbheaaGreatDoor
open Go.RowKit Go.Lib
set_option maxRecDepth 20000 in
theorem cellsF_one (F : List Fl) : ∀ u ∈ cellsF F, u.oneCell' = true := by
  intro u hu
  unfold cellsF at hu
  obtain ⟨f, -, hf⟩ := List.mem_flatMap.1 hu
  rcases List.mem_cons.1 hf with rfl | hf
  · rfl
  · obtain rfl := List.mem_singleton.1 hf
    rfl
set_option maxRecDepth 20000 in
theorem implClone (B : Nat) (v : Value) (F : List Fl) (w : World) (h : OwnF B v F w) (hl : F.length ≤ 1000000) :
    Calls Tryz.prog 64 #[v] w fun e w' => ∃ v', e = .returned v' ∧ OwnF w.heap.size v' F w' ∧ Below w.heap.size w w' := by
  rcases h.form with ⟨rfl, rfl⟩ | ⟨g, cap, rfl⟩
  · refine (AnyE.slices_Clone_nil Tryz.cloneFd 0 0 w).mono ?_
    rintro e w' ⟨rfl, rfl⟩
    exact ⟨_, rfl, OwnF.nil _ _, Below.refl _ _⟩
  · obtain ⟨i0, hi, hy0, hy1, hy2⟩ := info_parts Tryz.info43
    refine (AnyE.slices_Clone Tryz.cloneFd i0 _ 2 32 hi hy0 hy1 hy2 rfl (by decide) Tryz.sizeOf51 g 0 F.length cap (cellsF F) w (cellsF_len F) (by unfold maxLen; omega) (by omega) ?_ (cellsF_one F)).mono ?_
    · intro j u hu
      have := World.ownsRow.cells h (g := g) rfl j u hu
      rw [add_off] at this
      rw [Nat.zero_add]
      exact this
    · rintro e w' ⟨v', rfl, ho, -, hb⟩
      exact ⟨v', rfl, ho, hb⟩
end Go.Proofs.YtgabjiamabbheaaGreatDoor
namespace Go.Proofs.YtgabjiamabbheaaGreatDoor
open Go.RowKit Go.Lib
set_option maxRecDepth 20000 in
theorem grown_sets (g : Nat) : ∀ (vs : List Value) (o : Nat) (w : World), w.grownBy (w.setCells g o vs) (some g)
  | [], _, _ => ⟨rfl, rfl, rfl, Nat.le_refl _, fun _ _ _ => rfl⟩
  | v :: r, o, w => grown_trans (grown_set w g o v) (grown_sets g r (o + 1) _)
set_option maxRecDepth 20000 in
theorem run_clear_two {P : Program} (w : World) (t e ty : TypeId) (z u : Value) (ht : P.underlying t = some (.slice e)) (hv : ∀ w, (zeroValue e).run P w = .ok z w) (hz : z.cells = #[u, u]) (h1 : u.oneCell' = true) (b o n c : Nat) (hn : 0 < n)
    (hc : ∀ j, j < n * 2 → (w.cell? ⟨b, o + j, none⟩).isSome = true) (hf : ∀ j, j < n * 2 → w.frozen? ⟨b, o + j, none⟩ = false) :
    (Builtin.clear_ #[t] ty #[.slice (some ⟨b, o, none⟩) n c]).run P w = .ok (.tuple #[]) (w.setCells b o (List.replicate (n * 2) u)) := by
  have hzc : (Builtin.zeroCells z.cells n).toList = List.replicate (n * 2) u := by
    rw [hz]
    simp [Builtin.zeroCells]
    apply List.ext_getElem
    · simp
    · intro i h1 h2
      simp
      rcases Nat.mod_two_eq_zero_or_one i with h | h <;> simp [h]
  have hst := run_storeCells_cells (P := P) b o (List.replicate (n * 2) u) 0 w (by simpa using hc) (by simpa using hf) (by intro v hv'; rw [List.eq_of_mem_replicate hv']; exact h1)
  simp only [Nat.add_zero] at hst
  obtain ⟨m, rfl⟩ : ∃ m, n = m + 1 := ⟨n - 1, by omega⟩
  simp [Builtin.clear_, run_underlying ht, hv, hzc, hst]
set_option maxRecDepth 20000 in
theorem OwnF.row {B : Nat} {v : Value} {F : List Fl} {w : World} (h : OwnF B v F w) (hn : 0 < F.length) : ∃ g cap f, v = .slice (some ⟨g, 0, none⟩) F.length cap ∧ B ≤ g ∧ F.length ≤ cap ∧ cap ≤ maxLen ∧ w.rowIs g 51 (cap * 2) f ∧ ∀ j u, (cellsF F)[j]? = some u → f j = u := by
  rcases h.2 with ⟨rfl, h0⟩ | ⟨g, cap, cur, rfl, hB, hg, hc1, hc2, hc3, hc4⟩
  · omega
  · refine ⟨g, cap, fun j => cur[j]?.getD default, rfl, hB, hc1, hc2, ⟨cur, hg, hc3, fun i hi => ?_⟩, ?_⟩
    · have hlt : i < cur.size := by omega
      show cur[i]? = some (cur[i]?.getD default)
      rw [Array.getElem?_eq_getElem hlt, Option.getD_some]
    · intro j u hj
      rw [← hc4, List.getElem?_take] at hj
      split at hj
      · rw [Array.getElem?_toList] at hj
        show cur[j]?.getD default = u
        rw [hj]; rfl
      · cases hj
set_option maxRecDepth 20000 in
theorem OwnF.of_row {B g cap : Nat} {F : List Fl} {w : World} {f : Nat → Value} (h : w.rowIs g 51 (cap * 2) f) (hB : B ≤ g) (hn : F.length ≤ cap) (hc : cap ≤ maxLen) (hf : ∀ j u, (cellsF F)[j]? = some u → f j = u) : OwnF B (.slice (some ⟨g, 0, none⟩) F.length cap) F w := by
  obtain ⟨cur, hg, hs, hcu⟩ := h
  have hl := cellsF_len F
  refine ⟨hl, .inr ⟨g, cap, cur, rfl, hB, hg, hn, hc, hs, ?_⟩⟩
  apply List.ext_getElem?
  intro j
  rw [List.getElem?_take]
  split
  · rename_i hj
    rw [Array.getElem?_toList, hcu j (by omega)]
    cases hu : (cellsF F)[j]? with
    | none => have := List.getElem?_eq_none_iff.1 hu; omega
    | some u => rw [hf j u hu]
  · rename_i hj
    rw [List.getElem?_eq_none (by omega)]
set_option maxRecDepth 20000 in
theorem zeroFd : ∀ w, (zeroValue 51).run Tryz.prog w = .ok (.agg #[.string ⟨#[]⟩, .string ⟨#[]⟩]) w := Tryz.zeroValue51
set_option maxHeartbeats 4000000 in
set_option maxRecDepth 100000 in
theorem implDelete (B : Nat) (v : Value) (F : List Fl) (k : Nat) (w : World) (h : OwnF B v F w) (hk : k < F.length) (hl : F.length ≤ 1000000) :
    Calls Tryz.prog 67 #[v, .int .i64 k, .int .i64 ((k : Int) + 1)] w fun e w' => ∃ v', e = .returned v' ∧ OwnF B v' (F.eraseIdx k) w' ∧ v'.ownBlock = v.ownBlock ∧ w.grownBy w' v.ownBlock := by
  obtain ⟨i0, hi, hy0, hy1, hy2⟩ := info_parts Tryz.info43
  obtain ⟨g, cap, f, rfl, hB, hc1, hc2, hrow, hcell⟩ := h.row (by omega)
  have hc2' : cap ≤ 9223372036854775807 := by unfold maxLen at hc2; omega
  obtain ⟨n, hn⟩ : ∃ n, F.length = n + 1 := ⟨F.length - 1, by omega⟩
  obtain ⟨news, hnews⟩ : ∃ news, news = cellsF (F.drop (k + 1)) := ⟨_, rfl⟩
  have hlen : news.length = (n - k) * 2 := by rw [hnews, cellsF_len, List.length_drop, hn]; omega
  have hsplit : cellsF F = cellsF (F.take (k + 1)) ++ news := by rw [hnews, ← cellsF_app, List.take_append_drop]
  have htl : (cellsF (F.take (k + 1))).length = (k + 1) * 2 := by rw [cellsF_len, List.length_take]; omega
  have hget : ∀ t u, news[t]? = some u → f ((k + 1) * 2 + t) = u := by
    intro t u hu
    refine hcell _ _ ?_
    rw [hsplit, List.getElem?_append_right (by omega), htl, Nat.add_sub_cancel_left]
    exact hu
  have hnl : ∀ t, t < news.length → (k + 1) * 2 + t < cap * 2 := by intro t ht; omega
  have hone : ∀ u ∈ news, u.oneCell' = true := by rw [hnews]; exact cellsF_one _
  obtain ⟨A, hA, hsrc⟩ : ∃ A : Addr, (if cap = k + 1 then some (⟨g, 0, none⟩ : Addr) else some ⟨g, (k + 1) * 2, none⟩) = some A ∧ Hid (∀ t u, news[t]? = some u → w.drew.cell? (A.add t) = some u) := by
    by_cases hcap : cap = k + 1
    · refine ⟨⟨g, 0, none⟩, by rw [if_pos hcap], fun t u hu => ?_⟩
      have : t < news.length := (List.getElem?_eq_some_iff.1 hu).1
      omega
    · refine ⟨⟨g, (k + 1) * 2, none⟩, by rw [if_neg hcap], fun t u hu => ?_⟩
      have ht : t < news.length := (List.getElem?_eq_some_iff.1 hu).1
      rw [Addr.add_lit]
      show w.cell? _ = _
      rw [hrow.cell (hnl t ht), hget t u hu]
  have s1 : Hid (news.length = (n - k) * 2) := hlen
  have s3 : Hid (∀ t, t < news.length → (w.drew.cell? ⟨g, 0 + k * 2 + t, none⟩).isSome = true ∧ w.drew.frozen? ⟨g, 0 + k * 2 + t, none⟩ = false) := by
    intro t ht
    have := hnl t ht
    rw [Nat.zero_add]
    exact ⟨by show (w.cell? _).isSome = true; rw [hrow.cell (by omega)]; rfl, by show w.frozen? _ = false; exact hrow.frozen _⟩
  obtain ⟨W1, hW1⟩ : ∃ W1, W1 = w.drew.setCells g (0 + k * 2) news := ⟨_, rfl⟩
  have hr1 : W1.rowIs g 51 (cap * 2) (fun j => if 0 + k * 2 ≤ j ∧ j < 0 + k * 2 + news.length then news[j - (0 + k * 2)]?.getD default else f j) := by
    rw [hW1]; exact rowIs_setCells news _ _ _ hrow.drew
  have hg1 : w.grownBy W1 (some g) := by
    rw [hW1]
    have h2 := grown_sets g news (0 + k * 2) w.drew
    exact ⟨h2.os, h2.tape, h2.output, h2.size, h2.block⟩
  obtain ⟨W2, hW2⟩ : ∃ W2, W2 = W1.setCells g (n * 2) (List.replicate (1 * 2) (.string ⟨#[]⟩)) := ⟨_, rfl⟩
  have hcl : ∀ ty c, (Builtin.clear_ #[37] ty #[.slice (some ⟨g, n * 2, none⟩) 1 c]).run Tryz.prog W1 = .ok (.tuple #[]) W2 := by
    intro ty c
    rw [hW2]
    exact run_clear_two W1 _ _ ty _ _ Tryz.underlying37 zeroFd rfl rfl g (n * 2) 1 c (by omega) (fun j hj => by rw [hr1.cell (by omega)]; rfl) (fun j hj => hr1.frozen _)
  have hr2 := rowIs_setCells (List.replicate (1 * 2) (.string ⟨#[]⟩)) (n * 2) W1 _ hr1
  rw [← hW2] at hr2
  have hfin : OwnF B (.slice (some ⟨g, 0, none⟩) n cap) (F.eraseIdx k) W2 := by
    have hle : (F.eraseIdx k).length = n := by rw [List.length_eraseIdx_of_lt hk, hn]; rfl
    have := OwnF.of_row (B := B) (F := F.eraseIdx k) hr2 hB (by omega) hc2 ?_
    · rw [hle] at this; exact this
    · intro j u hj
      have hjl : j < n * 2 := by
        have := (List.getElem?_eq_some_iff.1 hj).1
        rw [cellsF_len, hle] at this; exact this
      have he : cellsF (F.eraseIdx k) = cellsF (F.take k) ++ news := by rw [hnews, ← cellsF_app, List.eraseIdx_eq_take_drop_succ]
      have htk : (cellsF (F.take k)).length = k * 2 := by rw [cellsF_len, List.length_take]; omega
      rw [he] at hj
      show (if n * 2 ≤ j ∧ _ then _ else _) = u
      rw [if_neg (by omega)]
      by_cases hjk : k * 2 ≤ j
      · rw [if_pos (by omega)]
        rw [List.getElem?_append_right (by omega), htk] at hj
        rw [Nat.zero_add, hj]; rfl
      · rw [if_neg (by omega)]
        rw [List.getElem?_append_left (by omega)] at hj
        refine hcell j u ?_
        have : cellsF F = cellsF (F.take k) ++ cellsF (F.drop k) := by rw [← cellsF_app, List.take_append_drop]
        rw [this, List.getElem?_append_left (by omega)]
        exact hj
  have hg2 : w.grownBy W2 (some g) := by
    rw [hW2]; exact grown_trans hg1 (grown_sets g _ _ _)
  have HW1 := mkHid hW1
  have Hfin := mkHid hfin
  have Hg2 := mkHid hg2
  have hkn : k ≤ n := by omega
  have hkc : k + 1 ≤ cap := by omega
  have hkc0 : k ≤ cap := by omega
  have hk0 : (0 : Int) ≤ (k : Int) + 1 := by omega
  have mixed : Tryz.prog.follows Departure.mixedOrders = true := by kernel_rfl
  rw [hn]
  have hnc : n + 1 ≤ cap := by omega
  clear hW1 hW2 hfin hg2 hr1 hr2 hg1 hrow hcell hget hnl hsplit htl hnews hlen hn h hk hc1
  go_enter Tryz.func67, Tryz.ntmps67
  go_wp2_with fail
  go_region_law_o (refine step_append_room rfl (.tmp 22) (.tmp 25) 37 rfl 51 i0 2 Tryz.underlying37 hi hy1 g 0 k cap (by simp [Act.eval, Act.put]) A (n - k) (cap - (k + 1)) news (by simp [Act.eval, Act.put]) s1.out hsrc.out hone (by omega) s3.out ?_; rw [← HW1.out])
  have hcn : ¬ cap = n := by omega
  have hnc0 : n ≤ cap := by omega
  go_wp2
  go_ret
  exact ⟨_, rfl, Hfin.out, rfl, Hg2.out⟩
end Go.Proofs.YtgabjiamabbheaaGreatDoor
