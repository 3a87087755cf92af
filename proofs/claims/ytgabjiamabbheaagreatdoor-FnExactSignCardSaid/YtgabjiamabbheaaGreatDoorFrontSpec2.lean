
/- A signature's value up to its head's sum, the specification's side. -/

/- A signature's value up to its head's sum, the specification's side: the whole. -/
import Derived.Test.YtgabjiamabbheaaGreatDoorSignBoth
import Derived.Test.YtgabjiamabbheaaGreatDoorShowDec
import Derived.Lib.QuietBelow
import Derived.Deep.QuietTactic
import Derived.BigQuiet
namespace Go.Proofs.YtgabjiamabbheaaGreatDoor
open Go.RowKit Go.Lib
/-- Texts with a colon between. -/
def jc : List ByteArray → List UInt8
  | [] => []
  | t :: r => t.data.toList ++ (match r with | [] => [] | _ :: _ => 58 :: jc r)
set_option maxRecDepth 20000 in
theorem jc_snoc : ∀ (F : List ByteArray) (t : ByteArray), F ≠ [] → jc (F ++ [t]) = jc F ++ 58 :: t.data.toList
  | [], _, h => absurd rfl h
  | [a], t, _ => by simp [jc]
  | a :: b :: r, t, _ => by
    have ih := jc_snoc (b :: r) t (by simp)
    show jc (a :: b :: (r ++ [t])) = _
    rw [jc]
    have e : b :: (r ++ [t]) = (b :: r) ++ [t] := rfl
    rw [e]
    show a.data.toList ++ 58 :: jc ((b :: r) ++ [t]) = _
    rw [ih, jc]
    simp
set_option maxRecDepth 20000 in
theorem jc_next (T : List ByteArray) (i : Nat) (h : i < T.length) : jc (T.take (i + 1)) = if i = 0 then T[i].data.toList else jc (T.take i) ++ 58 :: T[i].data.toList := by
  rw [List.take_succ_eq_append_getElem h]
  by_cases h0 : i = 0
  · subst h0
    simp [jc]
  · rw [if_neg h0, jc_snoc]
    intro e
    have := congrArg List.length e
    rw [List.length_take, Nat.min_eq_left (Nat.le_of_lt h)] at this
    exact h0 this
def formT (h : Int) : ByteArray := if h = 1 then ⟨#[114, 101, 108, 97, 120, 101, 100]⟩ else ⟨#[115, 105, 109, 112, 108, 101]⟩
set_option maxRecDepth 20000 in
theorem specFormT (h : Int) (hh : h = 0 ∨ h = 1) (w : World) : Calls Tryz.prog 40 #[.int .i64 h] w fun e w' => e = .returned (.string (formT h)) ∧ Below w.heap.size w w' := by
  have hA : ∀ ob, Below w.heap.size w (w.alloc ob) := fun ob => (Below.refl _ _).alloc (Nat.le_refl _) _
  rcases hh with rfl | rfl
  · go_enter Tryz.func40, Tryz.ntmps40
    go_wp2
    go_ret
    exact ⟨rfl, hA _⟩
  · go_enter Tryz.func40, Tryz.ntmps40
    go_wp2
    go_ret
    exact ⟨rfl, hA _⟩
def sumT (a b : Nat) : ByteArray := ⟨(decDigits a).toArray⟩ ++ ⟨#[45]⟩ ++ ⟨(decDigits b).toArray⟩
set_option maxRecDepth 20000 in
theorem dec_size (n : Nat) (h : n ≤ 2200000000) : (⟨(decDigits n).toArray⟩ : ByteArray).size ≤ 2200000001 := by
  have := dec_len n
  show (decDigits n).toArray.size ≤ _
  rw [List.size_toArray]
  omega
set_option maxRecDepth 20000 in
set_option maxHeartbeats 1000000 in
theorem specSumT (a b : Nat) (ha : a < 2147483647) (hb : b < 2147483647) (w : World) : Calls Tryz.prog 16 #[sumV a b] w fun e w' => e = .returned (.string (sumT a b)) ∧ Below w.heap.size w w' := by
  have hz1 := dec_size a (by omega)
  have hz2 := dec_size b (by omega)
  have hA := fun w => specDec a (by omega) w
  have hB := fun w => specDec b (by omega) w
  unfold sumT
  generalize (⟨(decDigits a).toArray⟩ : ByteArray) = ta at *
  generalize (⟨(decDigits b).toArray⟩ : ByteArray) = tb at *
  obtain ⟨W, hW⟩ : ∃ W, W = w.alloc (.cells #[.int .i64 a, .int .i64 b] 44) := ⟨_, rfl⟩
  have hbW : Below w.heap.size w W := by rw [hW]; exact (Below.refl _ _).alloc (Nat.le_refl _) _
  have q0 : W.cell? ⟨w.heap.size, 0, none⟩ = some (.int .i64 a) := by rw [hW]; simp
  have q1 : W.cell? ⟨w.heap.size, 1, none⟩ = some (.int .i64 b) := by rw [hW]; simp
  have k0 := cell_regrown q0
  have k1 := cell_regrown q1
  have cA : ∀ d os, Calls Tryz.prog 43 #[.int .i64 a] (Go.Sort.grow (redrawn W d) os) fun e w'' => e = .returned (.string ta) ∧ ∃ p : Regrown, w'' = Go.Sort.grow (redrawn W p.d) p.os := fun d os => Calls.regrown_of (hA _)
  have cB : ∀ d os, Calls Tryz.prog 43 #[.int .i64 b] (Go.Sort.grow (redrawn W d) os) fun e w'' => e = .returned (.string tb) ∧ ∃ p : Regrown, w'' = Go.Sort.grow (redrawn W p.d) p.os := fun d os => Calls.regrown_of (hB _)
  have CA := (show Hid _ from cA)
  have CB := (show Hid _ from cB)
  clear cA cB hA hB
  have n0 : ¬ 9223372036854775807 < ta.size + 1 := by omega
  have n1 : ¬ 9223372036854775807 < ta.size + 1 + tb.size := by omega
  go_enter Tryz.func16, Tryz.ntmps16
  go_wp2
  rw [← hW]
  clear hW
  refine wp_region_quiet_below (by kernel_rfl) (by kernel_rfl) ?_
  quiet_step (fail)
  quiet_step (fail)
  quiet_step (exact CA.out _ _)
  quiet_step (fail)
  quiet_step (fail)
  quiet_step (fail)
  quiet_step (exact CB.out _ _)
  repeat (quiet_step (fail))
  refine wpQuiet_nil ?_
  intro _ hw'
  obtain ⟨⟨dq, osq⟩, hw''⟩ := hw'
  subst hw''
  have hbq := hbW.trans ((below_regrown W dq osq).mono hbW.size)
  go_wp2
  go_ret
  exact ⟨rfl, hbq⟩
end Go.Proofs.YtgabjiamabbheaaGreatDoor
namespace Go.Proofs.YtgabjiamabbheaaGreatDoor
open Go.RowKit Go.Lib
/-- A signature's value up to its head's sum. -/
def frontT (d s : ByteArray) (F : List ByteArray) (h b : Int) (x y : Nat) : ByteArray :=
  ⟨#[32, 100, 61]⟩ ++ d ++ ⟨#[59, 32, 115, 61]⟩ ++ s ++ ⟨#[59, 32, 99, 61]⟩ ++ formT h ++ ⟨#[47]⟩ ++ formT b ++ ⟨#[59, 32, 104, 61]⟩ ++ ⟨(jc F).toArray⟩ ++ ⟨#[59, 32, 98, 61]⟩ ++ sumT x y ++ ⟨#[59, 32, 120, 61]⟩
set_option maxRecDepth 20000 in
theorem jc_len : ∀ (F : List ByteArray), (∀ t ∈ F, t.size ≤ 70) → (jc F).length ≤ 71 * F.length
  | [], _ => by simp [jc]
  | [t], h => by
    have := h t (by simp)
    have e : t.data.toList.length = t.size := by simp
    simp [jc]
    omega
  | t :: a :: q, h => by
    have ih := jc_len (a :: q) (fun x hx => h x (List.mem_cons_of_mem _ hx))
    have h0 := h t (by simp)
    have e : t.data.toList.length = t.size := by simp
    have e2 : jc (t :: a :: q) = t.data.toList ++ 58 :: jc (a :: q) := rfl
    rw [e2, List.length_append, List.length_cons, List.length_cons]
    omega
set_option maxRecDepth 10000 in
set_option maxHeartbeats 4000000 in
theorem specFront (d s : ByteArray) (A B h b : Int) (o : Option Addr) (F : List ByteArray) (cap x y : Nat) (w : World) (hd : d.size ≤ 300) (hs : s.size ≤ 300) (hF : Tx w.heap.size w o F) (hlen : F.length ≤ 30) (hsz : ∀ t ∈ F, t.size ≤ 70) (hh : h = 0 ∨ h = 1) (hb : b = 0 ∨ b = 1) (hx : x < 2147483647) (hy : y < 2147483647) :
    Calls Tryz.prog 13 #[sgV d s A B (.slice o F.length cap) h b, sumV x y] w fun e w' => e = .returned (.string (frontT d s F h b x y)) ∧ Below w.heap.size w w' := by
  obtain ⟨W, hW⟩ : ∃ W, W = (w.alloc (.cells #[.string d, .string s, .int .i64 A, .int .i64 B, .slice o F.length cap, .int .i64 h, .int .i64 b] 31)).alloc (.cells #[.int .i64 x, .int .i64 y] 44) := ⟨_, rfl⟩
  have hbW : Below w.heap.size w W := by rw [hW]; exact ((Below.refl _ _).alloc (Nat.le_refl _) _).alloc (by simp) _
  have hk0 : W.heap[w.heap.size]? = some (.cells #[.string d, .string s, .int .i64 A, .int .i64 B, .slice o F.length cap, .int .i64 h, .int .i64 b] 31 (0, 0)) := by rw [hW]; exact (heap_alloc_old _ _ _ (by simp)).trans (heap_alloc_at _ _)
  have hs0 : W.heap[w.heap.size + 1]? = some (.cells #[.int .i64 x, .int .i64 y] 44 (0, 0)) := by
    rw [hW]
    have := heap_alloc_at (w.alloc (.cells #[.string d, .string s, .int .i64 A, .int .i64 B, .slice o F.length cap, .int .i64 h, .int .i64 b] 31)) (.cells #[.int .i64 x, .int .i64 y] 44)
    simpa using this
  have HFW : Hid (Tx W.heap.size W o F) := (hF.below hbW).mono hbW.size
  have Hsz : Hid (∀ t ∈ F, t.size ≤ 70) := hsz
  have hfh := fun w => specFormT h hh w
  have hfb := fun w => specFormT b hb w
  have hfs := fun w => specSumT x y hx hy w
  have zh : (formT h).size ≤ 7 := by unfold formT; split <;> decide
  have zb : (formT b).size ≤ 7 := by unfold formT; split <;> decide
  have zs : (sumT x y).size ≤ 4400000003 := by
    unfold sumT
    rw [ByteArray.size_append, ByteArray.size_append]
    have h1 := dec_size x (by omega)
    have h2 := dec_size y (by omega)
    have h3 : (⟨#[45]⟩ : ByteArray).size = 1 := rfl
    omega
  have hjl := jc_len F hsz
  obtain ⟨R, hR⟩ : ∃ R, frontT d s F h b x y = R := ⟨_, rfl⟩
  have HR : Hid (⟨#[32, 100, 61]⟩ ++ d ++ ⟨#[59, 32, 115, 61]⟩ ++ s ++ ⟨#[59, 32, 99, 61]⟩ ++ formT h ++ ⟨#[47]⟩ ++ formT b ++ ⟨#[59, 32, 104, 61]⟩ ++ ⟨(jc F).toArray⟩ ++ ⟨#[59, 32, 98, 61]⟩ ++ sumT x y ++ ⟨#[59, 32, 120, 61]⟩ = R) := hR
  rw [hR]
  generalize formT h = th at *
  generalize formT b = tb at *
  generalize sumT x y = tsum at *
  clear hR hF hsz hh hb
  go_enter Tryz.func13, Tryz.ntmps13
  go_wp2
  rw [← hW]
  clear hW
  obtain ⟨c0, c1, c2, c3, c4, c5, c6⟩ := sg_cells hk0
  go_loopw [5, 6] (fun al i wr => ∃ (T : ByteArray) (k : Nat), k ≤ F.length ∧ al = .string T ∧ i = .int .i64 k ∧ Hid (T.data.toList = jc (F.take k)) ∧ wr = W) (fun _ i _ => F.length - (Lib.intOf i).toNat)
  case atStart => exact ⟨⟨#[]⟩, 0, Nat.zero_le _, rfl, rfl, rfl, rfl⟩
  case round =>
    obtain ⟨T, k, hk, rfl, rfl, HA, rfl⟩ := hrel
    have hTs : T.size ≤ 71 * k := by
      have h1 := jc_len (F.take k) (fun t ht => Hsz.out t (List.mem_of_mem_take ht))
      rw [← HA.out, List.length_take, Nat.min_eq_left hk] at h1
      simpa using h1
    by_cases hlt : k < F.length
    · obtain ⟨a, rfl, ha, hc0⟩ := HFW.out k hlt
      have hxs := Hsz.out F[k] (List.getElem_mem hlt)
      have HX : Hid (jc (F.take (k + 1)) = if k = 0 then F[k].data.toList else jc (F.take k) ++ 58 :: F[k].data.toList) := jc_next F k hlt
      generalize F[k] = f at *
      by_cases h0 : 0 < k
      · have HN : Hid ((T ++ ⟨#[58]⟩ ++ f).data.toList = jc (F.take (k + 1))) := by
          show _ = _
          rw [HX.out, if_neg (by omega), ← HA.out]
          simp [ByteArray.data_append]
        have n1 : (T ++ (⟨#[58]⟩ : ByteArray)).size = T.size + 1 := by rw [ByteArray.size_append]; rfl
        clear HX HA
        go_wp2
        go_roundw
        case rel => exact ⟨T ++ ⟨#[58]⟩ ++ f, k + 1, by omega, rfl, by go_num, HN, trivial⟩
        case measure => simp [Lib.intOf]; omega
      · have HN : Hid ((T ++ f).data.toList = jc (F.take (k + 1))) := by
          show _ = _
          obtain rfl : k = 0 := by omega
          rw [HX.out, if_pos rfl]
          have : T.data.toList = [] := by rw [HA.out]; rfl
          simp [ByteArray.data_append, this]
        clear HX HA
        go_wp2
        go_roundw
        case rel => exact ⟨T ++ f, k + 1, by omega, rfl, by go_num, HN, trivial⟩
        case measure => simp [Lib.intOf]; omega
    · have HT : Hid (T = ⟨(jc F).toArray⟩) := by
        show _ = _
        have e : T.data.toList = jc F := by rw [HA.out, List.take_of_length_le (by omega)]
        rw [← e]
      obtain ⟨s0, s1⟩ := two_cells hs0
      have k0 := cell_regrown c0
      have k1 := cell_regrown c1
      have k5 := cell_regrown c5
      have k6 := cell_regrown c6
      have q0 := cell_regrown s0
      have q1 := cell_regrown s1
      have cH : ∀ dr os, Calls Tryz.prog 40 #[.int .i64 h] (Go.Sort.grow (redrawn wr dr) os) fun e w'' => e = .returned (.string th) ∧ ∃ p : Regrown, w'' = Go.Sort.grow (redrawn wr p.d) p.os := fun dr os => Calls.regrown_of (hfh _)
      have cB : ∀ dr os, Calls Tryz.prog 40 #[.int .i64 b] (Go.Sort.grow (redrawn wr dr) os) fun e w'' => e = .returned (.string tb) ∧ ∃ p : Regrown, w'' = Go.Sort.grow (redrawn wr p.d) p.os := fun dr os => Calls.regrown_of (hfb _)
      have cS : ∀ dr os, Calls Tryz.prog 16 #[sumV x y] (Go.Sort.grow (redrawn wr dr) os) fun e w'' => e = .returned (.string tsum) ∧ ∃ p : Regrown, w'' = Go.Sort.grow (redrawn wr p.d) p.os := fun dr os => Calls.regrown_of (hfs _)
      have CH := (show Hid _ from cH)
      have CB := (show Hid _ from cB)
      have CS := (show Hid _ from cS)
      clear cH cB cS HA hfh hfb hfs c0 c1 c2 c3 c5 c6 s0 s1 hk0 hs0
      go_wp2
      have m2 : ¬ 9223372036854775807 < 3 + d.size := by omega
      have m3 : ¬ 9223372036854775807 < 3 + d.size + 4 := by omega
      have m4 : ¬ 9223372036854775807 < 3 + d.size + 4 + s.size := by omega
      have m5 : ¬ 9223372036854775807 < 3 + d.size + 4 + s.size + 4 := by omega
      have m6 : ¬ 9223372036854775807 < 3 + d.size + 4 + s.size + 4 + th.size := by omega
      have m7 : ¬ 9223372036854775807 < 3 + d.size + 4 + s.size + 4 + th.size + 1 := by omega
      have m8 : ¬ 9223372036854775807 < 3 + d.size + 4 + s.size + 4 + th.size + 1 + tb.size := by omega
      have m9 : ¬ 9223372036854775807 < 3 + d.size + 4 + s.size + 4 + th.size + 1 + tb.size + 4 := by omega
      have m10 : ¬ 9223372036854775807 < 3 + d.size + 4 + s.size + 4 + th.size + 1 + tb.size + 4 + T.size := by omega
      have m11 : ¬ 9223372036854775807 < 3 + d.size + 4 + s.size + 4 + th.size + 1 + tb.size + 4 + T.size + 4 := by omega
      have m12 : ¬ 9223372036854775807 < 3 + d.size + 4 + s.size + 4 + th.size + 1 + tb.size + 4 + T.size + 4 + tsum.size := by omega
      have m13 : ¬ 9223372036854775807 < 3 + d.size + 4 + s.size + 4 + th.size + 1 + tb.size + 4 + T.size + 4 + tsum.size + 4 := by omega
      refine wp_region_quiet_below (by kernel_rfl) (by kernel_rfl) ?_
      iterate 12 quiet_step (fail)
      quiet_step (exact CH.out _ _)
      iterate 4 quiet_step (fail)
      quiet_step (exact CB.out _ _)
      repeat (quiet_step (fail))
      quiet_step (exact CS.out _ _)
      repeat (quiet_step (fail))
      refine wpQuiet_nil ?_
      intro _ hw'
      obtain ⟨⟨dq, osq⟩, hw''⟩ := hw'
      subst hw''
      have hbq := hbW.trans ((below_regrown wr dq osq).mono hbW.size)
      go_wp2
      go_ret
      rw [HT.out] at *
      exact ⟨by rw [HR.out]; rfl, hbq⟩
end Go.Proofs.YtgabjiamabbheaaGreatDoor
