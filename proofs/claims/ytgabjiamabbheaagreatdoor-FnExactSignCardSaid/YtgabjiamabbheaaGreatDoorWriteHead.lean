
/- Lists of fields in memory: read, made anew, held against one another. -/

/- The walks of the two WriteHead. -/
import Derived.Test.YtgabjiamabbheaaGreatDoorUnfold
import Derived.Laws.MakeOwn
import Derived.Laws.OwnMore
import Derived.Deep.QuietTactic
import Derived.BigQuiet
import Derived.Deep.RegionWith
import Derived.Test.YtgabjiamabbheaaGreatDoorHeadTests
namespace Go.Proofs.YtgabjiamabbheaaGreatDoor
open Go.RowKit Go.Lib
set_option maxRecDepth 20000 in
theorem mkHid {p : Prop} (h : p) : Hid p := h
abbrev Fd := ByteArray × ByteArray
/-- The slice's elements, below a block, are these fields. -/
def Fld (B : Nat) (w : World) (o : Option Addr) (F : List Fd) : Prop :=
  ∀ i (h : i < F.length), ∃ a, o = some a ∧ a.block < B ∧ w.cell? (a.add (i * 2)) = some (.string F[i].1) ∧ w.cell? ⟨(a.add (i * 2)).block, (a.add (i * 2)).off + 1, none⟩ = some (.string F[i].2)
set_option maxRecDepth 20000 in
theorem add_block (a : Addr) (n : Nat) : (a.add n).block = a.block := by unfold Addr.add; split <;> rfl
set_option maxRecDepth 20000 in
theorem Fld.below {B : Nat} {w w' : World} {o : Option Addr} {F : List Fd} (h : Fld B w o F) (hb : Below B w w') : Fld B w' o F := by
  intro i hi
  obtain ⟨a, ho, ha, h0, h1⟩ := h i hi
  exact ⟨a, ho, ha, (hb.cell (by rw [add_block]; exact ha)).trans h0, (hb.cell (p := ⟨(a.add (i * 2)).block, (a.add (i * 2)).off + 1, none⟩) (show (a.add (i * 2)).block < B from by rw [add_block]; exact ha)).trans h1⟩
set_option maxRecDepth 20000 in
theorem Fld.mono {B B' : Nat} {w : World} {o : Option Addr} {F : List Fd} (h : Fld B w o F) (hB : B ≤ B') : Fld B' w o F := by
  intro i hi
  obtain ⟨a, ho, ha, h0, h1⟩ := h i hi
  exact ⟨a, ho, by omega, h0, h1⟩
set_option maxRecDepth 20000 in
theorem Tryz.info43 : (Tryz.prog.info? 51).map (fun i => (i.zero, i.size, i.bytes)) = some (some (.agg #[.string ⟨#[]⟩, .string ⟨#[]⟩]), 2, 32) := by kernel_rfl
end Go.Proofs.YtgabjiamabbheaaGreatDoor
namespace Go.Proofs.YtgabjiamabbheaaGreatDoor
open Go.RowKit Go.Lib
set_option maxRecDepth 20000 in
theorem heap_alloc_at (w : World) (o : Obj) : (w.alloc o).heap[w.heap.size]? = some o := by
  show (w.heap.push o)[w.heap.size]? = some o
  simp
set_option maxRecDepth 20000 in
/-- A field's variable: its two cells. -/
theorem var_cells {w : World} {g : Nat} {n v : ByteArray} {t : TypeId} {z : Nat × Nat} (h : w.heap[g]? = some (.cells #[.string n, .string v] t z)) :
    w.cell? ⟨g, 0, none⟩ = some (.string n) ∧ w.cell? ⟨g, 1, none⟩ = some (.string v) := by
  constructor <;> simp [World.cell?, h]
set_option maxRecDepth 20000 in
theorem Own.some_len {B : Nat} {v : Value} {p : List UInt8} {w : World} (h : Own B v p w) (hp : 0 < p.length) : ∃ g cap L, v = .slice (some ⟨g, 0, none⟩) L cap ∧ L = p.length := by
  rcases h.form with ⟨rfl, rfl⟩ | ⟨g, cap, rfl⟩
  · simp at hp
  · exact ⟨g, cap, _, rfl, rfl⟩
set_option maxHeartbeats 2000000 in
set_option maxRecDepth 40000 in
theorem specWriteHead (o : Option Addr) (F : List Fd) (cap : Nat) (w : World) (hF : Fld w.heap.size w o F) (hlen : F.length ≤ 200) (hsz : ∀ f ∈ F, f.1.size ≤ 1048576 ∧ f.2.size ≤ 1048576) :
    Calls Tryz.prog 46 #[.slice o F.length cap] w fun e w' => e = .returned (.string ⟨(Pl.hd [] F).toArray⟩) ∧ Below w.heap.size w w' := by
  obtain ⟨i0, hi, hy0, hy1, hy2⟩ := info_parts Tryz.info5
  have HF : Hid (Fld w.heap.size w o F) := hF
  have Hsz : Hid (∀ f ∈ F, f.1.size ≤ 1048576 ∧ f.2.size ≤ 1048576) := hsz
  clear hF hsz
  go_enter Tryz.func46, Tryz.ntmps46
  go_wp2
  go_loopw [3, 4, 5] (fun v i _ wr => ∃ (k : Nat) (p : List UInt8), k ≤ F.length ∧ i = .int .i64 k ∧ p.length ≤ 100000 ∧ Hid (Pl.hd p (F.drop k) = Pl.hd [] F) ∧ Own w.heap.size v p wr ∧ Below w.heap.size w wr) (fun _ i _ _ => F.length - (Lib.intOf i).toNat)
  case atStart => exact ⟨0, [], Nat.zero_le _, rfl, by simp, rfl, Own.made _ _ (Nat.le_refl _), (Below.refl _ _).alloc (Nat.le_refl _) _⟩
  case round =>
    obtain ⟨k, p, hk, rfl, hpl, hp, hown, hb⟩ := hrel
    by_cases hlt : k < F.length
    · obtain ⟨a, rfl, ha, hc0, hc1⟩ := (HF.out.below hb) k hlt
      obtain ⟨hs0, hs1⟩ := Hsz.out F[k] (List.getElem_mem _)
      have Hbad : Hid (Pl.okF F[k] = false → Pl.hd [] F = []) := show _ → _ from fun h => Pl.hd_bad p _ F k hlt h hp.out
      have Hlong : Hid (Pl.okF F[k] = true → 100000 < (p ++ Pl.line F[k]).length → Pl.hd [] F = []) := show _ → _ → _ from fun h hl => Pl.hd_long p _ F k hlt h hl hp.out
      have Hstep : Hid (Pl.okF F[k] = true → ¬ 100000 < (p ++ Pl.line F[k]).length → Pl.hd (p ++ Pl.line F[k]) (F.drop (k + 1)) = Pl.hd [] F) := show _ → _ → _ from fun h hl => Pl.hd_step p _ F k hlt h hl hp.out
      clear hp
      generalize F[k] = f at hc0 hc1 hs0 hs1 Hbad Hlong Hstep
      obtain ⟨n, v⟩ := f
      dsimp only at hc0 hc1 hs0 hs1
      have hcn := fun w => specName n w (by omega)
      have hcv := fun w => specValue v w (by omega)
      have hbs := hb.size
      by_cases hA : 100000 < v.size
      · have hE : Hid (Pl.hd [] F = []) := Hbad.out (Pl.okF_size _ (by dsimp only; omega))
        clear Hbad Hlong Hstep
        go_wp2
        go_ret
        exact ⟨by rw [hE.out]; rfl, hb.alloc hbs _⟩
      · cases hN : Pl.nameOk n.data.toList
        · have hE : Hid (Pl.hd [] F = []) := Hbad.out (Pl.okF_name _ hN)
          simp only [hN] at hcn
          clear Hbad Hlong Hstep hN
          go_wp2_with (go_at_call 33; go_must (refine (hcn _).mono ?_; rintro e w2 ⟨rfl, rfl⟩))
          go_ret
          exact ⟨by rw [hE.out]; rfl, hb.alloc hbs _⟩
        · cases hV : Pl.val v.data.toList
          · have hE : Hid (Pl.hd [] F = []) := Hbad.out (Pl.okF_val _ hV)
            simp only [hN] at hcn
            simp only [hV] at hcv
            clear Hbad Hlong Hstep hN hV
            go_wp2_with (first | (go_at_call 33; go_must (refine (hcn _).mono ?_; rintro e w2 ⟨rfl, rfl⟩)) | (go_at_call 34; go_must (refine (hcv _).mono ?_; rintro e w2 ⟨rfl, rfl⟩)))
            go_ret
            exact ⟨by rw [hE.out]; rfl, hb.alloc hbs _⟩
          · have hok : Pl.okF (n, v) = true := Pl.okF_mk _ (by dsimp only; omega) hN hV
            have hn7 := Pl.nameOk_size n hN
            simp only [hN] at hcn
            simp only [hV] at hcv
            clear hN hV Hbad
            have hownA := hown.alloc (.cells #[.string n, .string v] 51)
            have hbA := hb.alloc hbs (.cells #[.string n, .string v] 51)
            have hfvA : (wr.alloc (.cells #[.string n, .string v] 51)).heap[wr.heap.size]? = some (.cells #[.string n, .string v] 51 (0, 0)) := heap_alloc_at _ _
            have hll := Pl.line_len (n, v)
            dsimp only at hll
            by_cases hT : 100000 < p.length + n.size + v.size + 3
            · have hE : Hid (Pl.hd [] F = []) := Hlong.out hok (by rw [List.length_append, hll]; omega)
              clear Hlong Hstep hok
              go_wp2_with (first | (go_at_call 33; go_must (refine (hcn _).mono ?_; rintro e wx ⟨rfl, rfl⟩)) | (go_at_call 34; go_must (refine (hcv _).mono ?_; rintro e wx ⟨rfl, rfl⟩)) | (at_builtin; go_must (first | (refine wp_app_v (W := w) rfl _ _ 69 rfl i0 Tryz.underlying69 hi hy0 hy1 hy2 w.heap.size v3 (p ++ n.data.toList ++ [58] ++ v.data.toList) rfl hown3 _ [13, 10] rfl 2 2 rfl rfl (by simp; omega) (Nat.le_refl _) hb3 wr.heap.size _ 51 (0, 0) (by decide) hf3 ?_; intro v4 w4 hown4 hb4 hf4; obtain ⟨g4, cap4, L, rfl, hL⟩ := hown4.some_len (by simp; omega); have hLd : decide ((100000 : Int) < (L : Int)) = true := (by have e := hL; simp only [List.length_append, List.length_cons, List.length_nil, Pl.len_list] at e; first | exact decide_eq_true (by omega) | exact decide_eq_false (by omega)); clear hL) | (refine wp_apps_v (W := w) rfl _ _ 69 9 rfl i0 Tryz.underlying69 Tryz.underlying9 hi hy0 hy1 hy2 w.heap.size v2 (p ++ n.data.toList ++ [58]) rfl hown2 v rfl (by simp; omega) (Nat.le_refl _) hb2 wr.heap.size _ 51 (0, 0) (by decide) hf2 ?_; intro v3 w3 hown3 hb3 hf3) | (refine wp_app_v (W := w) rfl _ _ 69 rfl i0 Tryz.underlying69 hi hy0 hy1 hy2 w.heap.size v1 (p ++ n.data.toList) rfl hown1 _ [58] rfl 1 1 rfl rfl (by simp; omega) (Nat.le_refl _) hb1 wr.heap.size _ 51 (0, 0) (by decide) hf1 ?_; intro v2 w2 hown2 hb2 hf2; obtain ⟨he0, he1⟩ := var_cells hf2) | (refine wp_apps_v (W := w) rfl _ _ 69 9 rfl i0 Tryz.underlying69 Tryz.underlying9 hi hy0 hy1 hy2 w.heap.size u3 p rfl hownA n rfl (by omega) (Nat.le_refl _) hbA wr.heap.size _ 51 (0, 0) (by decide) hfvA ?_; intro v1 w1 hown1 hb1 hf1; obtain ⟨hd0, hd1⟩ := var_cells hf1))))
              go_ret
              exact ⟨by rw [hE.out]; rfl, hb4⟩
            · have hE : Hid (Pl.hd (p ++ n.data.toList ++ [58] ++ v.data.toList ++ [13, 10]) (F.drop (k + 1)) = Pl.hd [] F) := show _ = _ from by
                have := Hstep.out hok (by rw [List.length_append, hll]; omega)
                rw [← this]
                simp [Pl.line]
              clear Hlong Hstep hok
              go_wp2_with (first | (go_at_call 33; go_must (refine (hcn _).mono ?_; rintro e wx ⟨rfl, rfl⟩)) | (go_at_call 34; go_must (refine (hcv _).mono ?_; rintro e wx ⟨rfl, rfl⟩)) | (at_builtin; go_must (first | (refine wp_app_v (W := w) rfl _ _ 69 rfl i0 Tryz.underlying69 hi hy0 hy1 hy2 w.heap.size v3 (p ++ n.data.toList ++ [58] ++ v.data.toList) rfl hown3 _ [13, 10] rfl 2 2 rfl rfl (by simp; omega) (Nat.le_refl _) hb3 wr.heap.size _ 51 (0, 0) (by decide) hf3 ?_; intro v4 w4 hown4 hb4 hf4; obtain ⟨g4, cap4, L, rfl, hL⟩ := hown4.some_len (by simp; omega); have hLd : decide ((100000 : Int) < (L : Int)) = false := (by have e := hL; simp only [List.length_append, List.length_cons, List.length_nil, Pl.len_list] at e; first | exact decide_eq_true (by omega) | exact decide_eq_false (by omega)); clear hL) | (refine wp_apps_v (W := w) rfl _ _ 69 9 rfl i0 Tryz.underlying69 Tryz.underlying9 hi hy0 hy1 hy2 w.heap.size v2 (p ++ n.data.toList ++ [58]) rfl hown2 v rfl (by simp; omega) (Nat.le_refl _) hb2 wr.heap.size _ 51 (0, 0) (by decide) hf2 ?_; intro v3 w3 hown3 hb3 hf3) | (refine wp_app_v (W := w) rfl _ _ 69 rfl i0 Tryz.underlying69 hi hy0 hy1 hy2 w.heap.size v1 (p ++ n.data.toList) rfl hown1 _ [58] rfl 1 1 rfl rfl (by simp; omega) (Nat.le_refl _) hb1 wr.heap.size _ 51 (0, 0) (by decide) hf1 ?_; intro v2 w2 hown2 hb2 hf2; obtain ⟨he0, he1⟩ := var_cells hf2) | (refine wp_apps_v (W := w) rfl _ _ 69 9 rfl i0 Tryz.underlying69 Tryz.underlying9 hi hy0 hy1 hy2 w.heap.size u3 p rfl hownA n rfl (by omega) (Nat.le_refl _) hbA wr.heap.size _ 51 (0, 0) (by decide) hfvA ?_; intro v1 w1 hown1 hb1 hf1; obtain ⟨hd0, hd1⟩ := var_cells hf1))))
              go_roundw
              case rel => exact ⟨k + 1, _, by omega, by go_num, by simp; omega, hE, hown4, hb4⟩
              case measure => simp [Lib.intOf]; omega
    · have hpn : Hid (Pl.hd [] F = p) := show _ = _ from Pl.hd_done p _ F k (by omega) hp.out
      clear hp
      have hbk := hown.back (P := Tryz.prog) 69 9 Tryz.underlying69 Tryz.underlying5 Tryz.underlying9
      go_wp2
      go_ret
      rw [hpn.out]
      exact ⟨rfl, hb⟩
end Go.Proofs.YtgabjiamabbheaaGreatDoor
