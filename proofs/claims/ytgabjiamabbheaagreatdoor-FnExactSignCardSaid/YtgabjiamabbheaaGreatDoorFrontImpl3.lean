
/- A signature's value; the last field of a name; the program's side. -/
import Derived.Test.YtgabjiamabbheaaGreatDoorFrontImpl2
import Derived.Test.YtgabjiamabbheaaGreatDoorLow
import Derived.Test.YtgabjiamabbheaaGreatDoorFields
namespace Go.Proofs.YtgabjiamabbheaaGreatDoor
open Go.RowKit Go.Lib
set_option maxRecDepth 10000 in
set_option maxHeartbeats 1000000 in
theorem implValueT (d s : ByteArray) (A B h b : Int) (fb fo : Nat) (F : List ByteArray) (cap x y p q : Nat) (w : World) (hd : d.size ≤ 300) (hs : s.size ≤ 300) (hF : ∀ (j : Nat) t, F[j]? = some t → w.cell? ⟨fb, fo + j, none⟩ = some (.string t)) (hfb : fb < w.heap.size) (hlen : F.length ≤ 30) (hcap : F.length ≤ cap) (hsz : ∀ t ∈ F, t.size ≤ 70) (hh : h = 0 ∨ h = 1) (hb : b = 0 ∨ b = 1) (hx : x < 2147483647) (hy : y < 2147483647) (hp : p < 2147483647) (hq : q < 2147483647) (hP : PTab w) :
    Calls Tryz.prog 28 #[sigV d s A B (.slice (some ⟨fb, fo, none⟩) F.length cap) h b x y p q] w fun e w' => e = .returned (.string (frontT d s F h b x y ++ sumT p q)) ∧ Below w.heap.size w w' := by
  obtain ⟨W, hW⟩ : ∃ W, W = w.alloc (.cells #[.string d, .string s, .int .i64 A, .int .i64 B, .slice (some ⟨fb, fo, none⟩) F.length cap, .int .i64 h, .int .i64 b, .int .i64 x, .int .i64 y, .int .i64 p, .int .i64 q] 55) := ⟨_, rfl⟩
  have hbW : Below w.heap.size w W := by rw [hW]; exact (Below.refl _ _).alloc (Nat.le_refl _) _
  have hPW : PTab W := ptab_on hP (ptab_lt hP) hbW
  have hFW : ∀ (j : Nat) t, F[j]? = some t → W.cell? ⟨fb, fo + j, none⟩ = some (.string t) := fun j t ht => (hbW.cell (show fb < w.heap.size from hfb)).trans (hF j t ht)
  have hfW : fb < W.heap.size := Nat.lt_of_lt_of_le hfb hbW.size
  have c0 : W.cell? ⟨w.heap.size, 0, none⟩ = some (.string d) := by rw [hW]; simp
  have c1 : W.cell? ⟨w.heap.size, 1, none⟩ = some (.string s) := by rw [hW]; simp
  have c2 : W.cell? ⟨w.heap.size, 2, none⟩ = some (.int .i64 A) := by rw [hW]; simp
  have c3 : W.cell? ⟨w.heap.size, 3, none⟩ = some (.int .i64 B) := by rw [hW]; simp
  have c4 : W.cell? ⟨w.heap.size, 4, none⟩ = some (.slice (some ⟨fb, fo, none⟩) F.length cap) := by rw [hW]; simp
  have c5 : W.cell? ⟨w.heap.size, 5, none⟩ = some (.int .i64 h) := by rw [hW]; simp
  have c6 : W.cell? ⟨w.heap.size, 6, none⟩ = some (.int .i64 b) := by rw [hW]; simp
  have c7 : W.cell? ⟨w.heap.size, 7, none⟩ = some (.int .i64 x) := by rw [hW]; simp
  have c8 : W.cell? ⟨w.heap.size, 8, none⟩ = some (.int .i64 y) := by rw [hW]; simp
  have c9 : W.cell? ⟨w.heap.size, 9, none⟩ = some (.int .i64 p) := by rw [hW]; simp
  have c10 : W.cell? ⟨w.heap.size, 10, none⟩ = some (.int .i64 q) := by rw [hW]; simp
  have k0 := cell_regrown c0
  have k1 := cell_regrown c1
  have k2 := cell_regrown c2
  have k3 := cell_regrown c3
  have k4 := cell_regrown c4
  have k5 := cell_regrown c5
  have k6 := cell_regrown c6
  have k7 := cell_regrown c7
  have k8 := cell_regrown c8
  have k9 := cell_regrown c9
  have k10 := cell_regrown c10
  have cF : ∀ dr os, Calls Tryz.prog 25 #[sigV d s A B (.slice (some ⟨fb, fo, none⟩) F.length cap) h b x y p q] (Go.Sort.grow (redrawn W dr) os) fun e w'' => e = .returned (.string (frontT d s F h b x y)) ∧ ∃ p : Regrown, w'' = Go.Sort.grow (redrawn W p.d) p.os := fun dr os => Calls.regrown_of (implFront d s A B h b fb fo F cap x y p q _ hd hs (fun j t ht => cell_regrown (hFW j t ht) dr os) (Nat.lt_of_lt_of_le hfW (below_regrown W dr os).size) hlen hcap hsz hh hb hx hy (ptab_on hPW (ptab_lt hPW) (below_regrown W dr os)))
  have cS : ∀ dr os, Calls Tryz.prog 63 #[sumV p q] (Go.Sort.grow (redrawn W dr) os) fun e w'' => e = .returned (.string (sumT p q)) ∧ ∃ p : Regrown, w'' = Go.Sort.grow (redrawn W p.d) p.os := fun dr os => Calls.regrown_of (implSumT p q hp hq _ (ptab_on hPW (ptab_lt hPW) (below_regrown W dr os)))
  have CF := (show Hid _ from cF)
  have CS := (show Hid _ from cS)
  have zs := sumT_size p q hp hq
  have zf : (frontT d s F h b x y).size ≤ 100000 := by
    rw [← cat_front, catT_size]
    have zh : (formT h).size ≤ 7 := by unfold formT; split <;> decide
    have zb : (formT b).size ≤ 7 := by unfold formT; split <;> decide
    have zs := sumT_size x y hx hy
    have hjl := jc_len F hsz
    have zj : (⟨(jc F).toArray⟩ : ByteArray).size ≤ 2130 := by
      show (jc F).toArray.size ≤ _
      rw [List.size_toArray]
      omega
    have l3 : (⟨#[32, 100, 61]⟩ : ByteArray).size = 3 := rfl
    have l4 : (⟨#[59, 32, 115, 61]⟩ : ByteArray).size = 4 := rfl
    have l5 : (⟨#[59, 32, 99, 61]⟩ : ByteArray).size = 4 := rfl
    have l6 : (⟨#[47]⟩ : ByteArray).size = 1 := rfl
    have l7 : (⟨#[59, 32, 104, 61]⟩ : ByteArray).size = 4 := rfl
    have l8 : (⟨#[59, 32, 98, 61]⟩ : ByteArray).size = 4 := rfl
    have l9 : (⟨#[59, 32, 120, 61]⟩ : ByteArray).size = 4 := rfl
    simp only [allSz, List.map_cons, List.map_nil, List.sum_cons, List.sum_nil, l3, l4, l5, l6, l7, l8, l9]
    omega
  have n0 : ¬ 9223372036854775807 < (frontT d s F h b x y).size + (sumT p q).size := by omega
  generalize frontT d s F h b x y = R at *
  generalize sumT p q = ts at *
  clear cF cS hF hFW hPW hP hsz hh hb hx hy hp hq c0 c1 c2 c3 c4 c5 c6 c7 c8 c9 c10
  go_enter Tryz.func28, Tryz.ntmps28
  go_wp2
  rw [← hW]
  clear hW
  refine wp_region_quiet_below (by kernel_rfl) (by kernel_rfl) ?_
  repeat (quiet_step (fail))
  quiet_step (exact CF.out _ _)
  repeat (quiet_step (fail))
  quiet_step (exact CS.out _ _)
  repeat (quiet_step (fail))
  refine wpQuiet_nil ?_
  intro _ hw'
  obtain ⟨⟨dq, osq⟩, hw''⟩ := hw'
  subst hw''
  have hbq := hbW.trans ((below_regrown W dq osq).mono hbW.size)
  go_wp2
  go_ret
  exact ⟨rfl, hbq⟩
end Go.Proofs.YtgabjiamabbheaaGreatDoor
