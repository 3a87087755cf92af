
/- CompileFilter: what the law's walk wants. -/

/- FnExactCompileFilter: the law's walk. -/
import Derived.Test.YtonnmbkfjiddnaaCompImplH
import Derived.Test.YtonnmbkfjiddnaaCompMark3
import Derived.Test.YtonnmbkfjiddnaaGenFilterNodeC
import Derived.Test.YtonnmbkfjiddnaaWeakFilterNode
namespace Go.Proofs.Ytonnmbkfjiddnaa
open Go.RowKit Go.Lib Go.Maps
/-- The node as the walks have it. -/
def GFilterNode.nd (n : GFilterNode) : Nd := ⟨n.kind, n.num, n.matF, n.text, n.names, n.keys, n.kids⟩
set_option maxRecDepth 20000 in
theorem TxL.txC {lo hi : Nat} {w : World} {o : Option Addr} {F : List ByteArray} (h : TxL lo hi w o F) : Tx hi w o F := fun i hi => by
  obtain ⟨a, ho, -, h2, h3⟩ := h i hi
  exact ⟨a, ho, h2, h3⟩
set_option maxRecDepth 20000 in
theorem InL.inC {lo hi : Nat} {w : World} {o : Option Addr} {F : List Int} (h : InL lo hi w o F) : Ints hi w o F := fun i hi => by
  obtain ⟨a, ho, -, h2, h3⟩ := h i hi
  exact ⟨a, ho, h2, h3⟩
set_option maxRecDepth 20000 in
theorem GFilterNodesL.nds {lo hi : Nat} {w : World} {o : Option Addr} {F : List GFilterNode} (h : GFilterNodesL lo hi w o F) : Nds hi w o (F.map (·.nd)) := by
  intro i hi
  have hi' : i < F.length := by simpa using hi
  obtain ⟨a, v4, v5, v6, ho, -, h2, h3, ⟨⟨a4, k4, e4, t4⟩, ⟨a5, k5, e5, t5⟩, ⟨a6, k6, e6, t6⟩⟩⟩ := h i hi'
  rw [List.getElem_map]
  exact ⟨a, v4, v5, v6, ho, h2, ⟨h3.c0, h3.c1, h3.c2, h3.c3, h3.c4, h3.c5, h3.c6⟩, ⟨⟨a4, k4, e4, t4.txC⟩, ⟨a5, k5, e5, t5.txC⟩, ⟨a6, k6, e6, t6.inC⟩⟩⟩
set_option maxRecDepth 20000 in
theorem GFilterNodesL.nc {lo hi g : Nat} {w : World} {F : List GFilterNode} (h : GFilterNodesL lo hi w (some ⟨g, 0, none⟩) F) (hc : ∀ i, i < F.length → ∃ v6, w.cell? ⟨g, i * 7 + 6, none⟩ = some v6 ∧ Cap6 v6) : Nc hi w (some ⟨g, 0, none⟩) (F.map (·.nd)) := by
  refine ⟨h.nds, fun i hi a x k e ho hcell => ?_⟩
  cases ho
  obtain ⟨v6, h1, h2⟩ := hc i (by simpa using hi)
  rw [add_off] at hcell
  rw [h1] at hcell
  exact h2 x k e (Option.some.inj hcell)
set_option maxRecDepth 20000 in
theorem fits_nd {F : List GFilterNode} (h : ∀ f ∈ F, f.fits 1048576) : ∀ n ∈ F.map (·.nd), n.fits 1048576 := by
  intro n hn
  obtain ⟨f, hf, rfl⟩ := List.mem_map.1 hn
  exact h f hf
set_option maxRecDepth 20000 in
/-- What holds of every instruction. -/
theorem cat_all (p : Cd → Prop) (f : Nat → Nat → List Cd) (hf : ∀ i b, ∀ c ∈ f i b, p c) : ∀ (ks : List Int) (b : Nat), ∀ c ∈ Cp.cat f ks b, p c
  | [], _, c, h => (List.not_mem_nil h).elim
  | k :: r, b, c, h => by
    rw [Cp.cat] at h
    rcases List.mem_append.1 h with h | h
    · exact hf _ _ c h
    · exact cat_all p f hf r _ c h
set_option maxRecDepth 20000 in
theorem sev_all (p : Cd → Prop) (f : Nat → Nat → List Cd) (hf : ∀ i b, ∀ c ∈ f i b, p c) (hz : ∀ op to, p (Cp.zc op to)) (op e : Int) : ∀ (ks : List Int) (b : Nat), ∀ c ∈ Cp.sev f op e ks b, p c
  | [], _, c, h => (List.not_mem_nil h).elim
  | k :: r, b, c, h => by
    rw [Cp.sev] at h
    rcases List.mem_cons.1 h with rfl | h
    · exact hz _ _
    · rcases List.mem_append.1 h with h | h
      · exact hf _ _ c h
      · exact sev_all p f hf hz op e r _ c h
set_option maxRecDepth 20000 in
theorem sevs_all (p : Cd → Prop) (f : Nat → Nat → List Cd) (hf : ∀ i b, ∀ c ∈ f i b, p c) (hz : ∀ op to, p (Cp.zc op to)) (op : Int) (ks : List Int) (b : Nat) : ∀ c ∈ Cp.sevs f op ks b, p c := by
  intro c h
  cases ks with
  | nil => exact (List.not_mem_nil h).elim
  | cons k r =>
    rw [Cp.sevs] at h
    rcases List.mem_append.1 h with h | h
    · exact hf _ _ c h
    · exact sev_all p f hf hz op _ r _ c h
set_option maxRecDepth 20000 in
theorem choice_all (p : Cd → Prop) (f : Nat → Nat → List Cd) (hf : ∀ i b, ∀ c ∈ f i b, p c) (hz : ∀ op to, p (Cp.zc op to)) (k0 k1 : Int) (o : List Int) (b : Nat) : ∀ c ∈ Cp.choice f k0 k1 o b, p c := by
  intro c h
  cases o with
  | nil =>
    rw [Cp.choice] at h
    rcases List.mem_append.1 h with h | h
    · exact hf _ _ c h
    · rcases List.mem_cons.1 h with rfl | h
      · exact hz _ _
      · exact hf _ _ c h
  | cons k2 r =>
    rw [Cp.choice] at h
    rcases List.mem_append.1 h with h | h
    · exact hf _ _ c h
    · rcases List.mem_cons.1 h with rfl | h
      · exact hz _ _
      · rcases List.mem_append.1 h with h | h
        · exact hf _ _ c h
        · rcases List.mem_cons.1 h with rfl | h
          · exact hz _ _
          · exact hf _ _ c h
set_option maxRecDepth 20000 in
theorem one_all (p : Cd → Prop) (f : Nat → Nat → List Cd) (hf : ∀ i b, ∀ c ∈ f i b, p c) (hz : ∀ op to, p (Cp.zc op to)) (hn : ∀ op k, p (Cp.nc op k)) (n : Nd) (hl : p (Cp.leaf n)) (b : Nat) : ∀ c ∈ Cp.one f n b, p c := by
  intro c h
  unfold Cp.one at h
  split at h
  · exact cat_all p f hf _ _ c h
  · rcases List.mem_cons.1 h with rfl | h
    · exact hz _ _
    · unfold Cp.rest at h
      split at h
      · split at h
        · exact choice_all p f hf hz _ _ _ _ c h
        · exact (List.not_mem_nil h).elim
      · split at h
        · split at h
          · unfold Cp.again at h
            rcases List.mem_cons.1 h with rfl | h
            · exact hn _ _
            · rcases List.mem_cons.1 h with rfl | h
              · exact hz _ _
              · rcases List.mem_append.1 h with h | h
                · exact hf _ _ c h
                · obtain rfl := List.mem_singleton.1 h
                  exact hz _ _
          · exact (List.not_mem_nil h).elim
        · split at h
          · obtain rfl := List.mem_singleton.1 h
            exact hz _ _
          · split at h
            · obtain rfl := List.mem_singleton.1 h
              exact hn _ _
            · split at h
              · obtain rfl := List.mem_singleton.1 h
                exact hn _ _
              · split at h
                · split at h
                  · unfold Cp.opp at h
                    rcases List.mem_append.1 h with h | h
                    · exact hf _ _ c h
                    · simp only [List.mem_cons, List.not_mem_nil, or_false] at h
                      rcases h with rfl | rfl | rfl | rfl
                      · exact hz _ _
                      · exact hn _ _
                      · exact hz _ _
                      · exact hn _ _
                  · exact (List.not_mem_nil h).elim
                · split at h
                  · exact sevs_all p f hf hz _ _ _ c h
                  · split at h
                    · exact sevs_all p f hf hz _ _ _ c h
                    · obtain rfl := List.mem_singleton.1 h
                      exact hl
set_option maxRecDepth 20000 in
theorem code_fits (F : List Nd) (m : Nat) (hF : ∀ n ∈ F, n.fits m) : ∀ (d i b : Nat), ∀ c ∈ Cp.code F d i b, c.nd.fits m
  | 0, _, _, c, h => (List.not_mem_nil h).elim
  | d + 1, i, b, c, h => by
    have zf : ∀ k : Int, ({ Cp.z with num := k } : Nd).fits m := fun k => ⟨Nat.zero_le _, Nat.zero_le _, fun t ht => (List.not_mem_nil ht).elim, Nat.zero_le _, fun t ht => (List.not_mem_nil ht).elim, Nat.zero_le _⟩
    refine one_all (fun c => c.nd.fits m) (Cp.code F d) (fun i b => code_fits F m hF d i b) (fun _ _ => zf 0) (fun _ k => zf k) _ ?_ b c h
    have hn : (F[i]?.getD Cp.z).fits m := by
      cases e : F[i]? with
      | none => exact zf 0
      | some n => exact hF n (List.mem_of_getElem? e)
    obtain ⟨f0, f1, f2, f3, f4, f5⟩ := hn
    exact ⟨f0, f1, f2, f3, f4, Nat.zero_le _⟩
/-- The code of nodes, right or not. -/
def allc (F : List Nd) : List Cd := if Fn.good F then Cp.code F 20 (F.length - 1) 0 ++ [Cp.zc 10 0] else []
set_option maxRecDepth 20000 in
theorem allc_len (F : List Nd) : (allc F).length ≤ 12001 := by
  unfold allc
  split
  · rename_i h
    have := Cp.good_len F h 0
    rw [List.length_append, List.length_singleton]
    omega
  · exact Nat.zero_le _
set_option maxRecDepth 20000 in
theorem allc_fits (F : List Nd) (hF : ∀ n ∈ F, n.fits 1048576) : ∀ c ∈ allc F, c.nd.fits 1048576 := by
  intro c h
  unfold allc at h
  split at h
  · rcases List.mem_append.1 h with h | h
    · exact code_fits F _ hF _ _ _ c h
    · obtain rfl := List.mem_singleton.1 h
      exact ⟨Nat.zero_le _, Nat.zero_le _, fun t ht => (List.not_mem_nil ht).elim, Nat.zero_le _, fun t ht => (List.not_mem_nil ht).elim, Nat.zero_le _⟩
  · exact (List.not_mem_nil h).elim
set_option maxRecDepth 20000 in
theorem specComp (F : List Nd) (o : Option Addr) (cap : Nat) (w : World) (hF : Nds w.heap.size w o F) (hlF : F.length ≤ 1048576) (hfit : ∀ n ∈ F, n.fits 1048576) :
    Calls Try.prog 5 #[.slice o F.length cap] w fun e w' => ∃ o0 c0, e = .returned (.slice o0 (allc F).length c0) ∧ Cds w'.heap.size w' o0 (allc F) ∧ Below w.heap.size w w' := by
  cases hg : Fn.good F
  · refine (specCompBad F o cap w hF hlF hfit hg).mono ?_
    rintro e w' ⟨⟨g, rfl⟩, hb⟩
    have e0 : allc F = [] := by unfold allc; rw [hg]; rfl
    rw [e0]
    exact ⟨_, _, rfl, fun i hi => absurd hi (Nat.not_lt_zero _), hb⟩
  · refine (specCompGood F o cap w hF hlF hfit hg).mono ?_
    rintro e w' ⟨v, E, k, rfl, hk, hC, hE, hb⟩
    have e0 : E.map (·.1) = allc F := by unfold allc; rw [hE, hg]; rfl
    obtain ⟨o0, c0, rfl⟩ := hC.shape
    have h2 := hC.cds
    have h3 : E.length = (allc F).length := by rw [← e0, List.length_map]
    rw [e0] at h2
    rw [h3]
    exact ⟨o0, c0, rfl, h2, hb⟩
set_option maxRecDepth 20000 in
theorem implComp (F : List Nd) (o : Option Addr) (cap : Nat) (w : World) (hF : Nc w.heap.size w o F) (hlF : F.length ≤ 1048576) (hfit : ∀ n ∈ F, n.fits 1048576) :
    Calls Try.prog 7 #[.slice o F.length cap] w fun e w' => ∃ o0 c0 E k, e = .returned (.slice o0 (allc F).length c0) ∧ w.heap.size ≤ k ∧ k ≤ w'.heap.size ∧ Cw k (.slice o0 (allc F).length c0) E w' ∧ E.map (·.1) = allc F ∧ Below w.heap.size w w' := by
  cases hg : Fn.good F
  · refine (implCompBad F o cap w hF.1 hlF hfit hg).mono ?_
    rintro e w' ⟨rfl, hb⟩
    have e0 : allc F = [] := by unfold allc; rw [hg]; rfl
    rw [e0]
    exact ⟨none, 0, [], w.heap.size, rfl, Nat.le_refl _, hb.size, Cw.nil _ _, rfl, hb⟩
  · refine (implCompGood F o cap w hF hlF hfit hg).mono ?_
    rintro e w' ⟨v, E, k, rfl, hk, hC, hE, hb⟩
    have e0 : E.map (·.1) = allc F := by unfold allc; rw [hE, hg]; rfl
    obtain ⟨o0, c0, rfl⟩ := hC.shape
    have h3 : E.length = (allc F).length := by rw [← e0, List.length_map]
    rw [h3] at hC ⊢
    refine ⟨o0, c0, E, k, rfl, hk, ?_, hC, e0, hb⟩
    rcases hC.row.2 with ⟨h1, h0⟩ | ⟨g, cap', cur, h1, h2, h4, -⟩
    · exfalso
      have : (allc F).length ≠ 0 := by
        unfold allc
        rw [hg]
        simp
      omega
    · have := heap_ltM h4
      omega
set_option maxRecDepth 20000 in
theorem Kp.low {lo hi : Nat} {w w' : World} (h : Kp lo hi w w') (hl : lo ≤ w.heap.size) : Below lo w w' := ⟨h.os, h.tape, h.output, h.size, fun k hk => h.out k (by omega) (.inl hk)⟩
set_option maxRecDepth 20000 in
theorem ownsRow_kp {lo hi B : Nat} {w w' : World} {t : TypeId} {s n : Nat} {v : Value} {xs : List Value} (h : w.ownsRow B t s v n xs) (hk : Kp lo hi w w') (hB : hi ≤ B) : w'.ownsRow B t s v n xs := by
  refine ⟨h.1, ?_⟩
  rcases h.2 with hn | ⟨g, cap, cur, rfl, hb, hg, rest⟩
  · exact .inl hn
  · exact .inr ⟨g, cap, cur, rfl, hb, (hk.out g (heap_ltM hg) (.inr (by omega))).trans hg, rest⟩
set_option maxRecDepth 20000 in
theorem Cw.kp {lo hi B : Nat} {w w' : World} {v : Value} {E : List CdE} (h : Cw B v E w) (hk : Kp lo hi w w') (hB : hi ≤ B) : Cw B v E w' :=
  ⟨ownsRow_kp h.row hk hB, fun s hs => ⟨(h.own s hs).1, fun hn => ownsRow_kp ((h.own s hs).2 hn) hk hB⟩, h.sep, h.kids⟩
end Go.Proofs.Ytonnmbkfjiddnaa
namespace Go.Proofs.Ytonnmbkfjiddnaa
open Go.RowKit Go.Lib Go.Maps
set_option maxHeartbeats 8000000 in
set_option maxRecDepth 20000 in
theorem compileWalk (o : Option Addr) (F : List GFilterNode) (cap : Nat) (W : World) (hF : GFilterNodesL 0 W.heap.size W o F) (hlen : F.length ≤ maxLen) (hsz : ∀ f ∈ F, f.fits maxLen) :
    Calls Try.prog 3 #[.slice o F.length cap] W fun e W' => e = .returned (.bool true) ∧ Below W.heap.size W W' := by
  have k0 := mkHid (lawSzSFilterNode o F cap 1048576 0 W hF hlen hsz (Nat.le_refl _))
  have HF := mkHid hF
  have Hlen := mkHid hlen
  clear hF hlen hsz
  go_enter Try.func3, Try.ntmps3
  go_wp2_with (go_at_call 4; fail)
  refine k0.out.mono ?_
  rintro e w0 ⟨r, rfl, hr, hb0⟩
  have HB0 := mkHid hb0
  clear hb0 k0
  rcases hr.out with hr | ⟨m, hm, -, hl, hfit⟩
  · subst hr
    go_wp2
    go_ret
    exact ⟨rfl, HB0.out⟩
  subst hm
  have u0 : decide ((m : Int) < 0) = false := decide_eq_false (by omega)
  have Hfit := mkHid hfit
  have nF := mkHid (fits_nd hfit)
  have hN : (F.map (·.nd)).length = F.length := List.length_map _
  have hlN : (F.map (·.nd)).length ≤ 1048576 := by rw [hN]; exact hl
  have args : ∀ w', Below W.heap.size W w' → GFilterNodesL 0 w'.heap.size w' o F := fun w' hb => (HF.out.below hb (Nat.le_refl _)).mono (Nat.le_refl _) hb.size
  have Hargs := mkHid args
  obtain ⟨L, hL⟩ : ∃ L, allc (F.map (·.nd)) = L := ⟨_, rfl⟩
  have hLl : L.length ≤ 12001 := by rw [← hL]; exact allc_len _
  have hLf : Hid (∀ c ∈ L, c.nd.fits 1048576) := by rw [← hL]; exact allc_fits _ nF.out
  have kS := mkHid (fun (x : Option Addr) (c : Nat) (w' : World) (h : GFilterNodesL 0 w'.heap.size w' x F) => specComp (F.map (·.nd)) x c w' h.nds hlN nF.out)
  have kI := mkHid (fun (g : Nat) (c : Nat) (w' : World) (h : GFilterNodesL 0 w'.heap.size w' (some ⟨g, 0, none⟩) F) (hc : ∀ i, i < F.length → ∃ v6, w'.cell? ⟨g, i * 7 + 6, none⟩ = some v6 ∧ Cap6 v6) => implComp (F.map (·.nd)) (some ⟨g, 0, none⟩) c w' (h.nc hc) hlN nF.out)
  rw [hL, hN] at kS kI
  have kT := mkHid (fun (w' : World) (hb : Below W.heap.size W w') => lawToSXFilterNodeC o F cap 0 w' (args w' hb) hl hfit)
  clear args hL hN hlN hr hfit nF
  -- the specification's answer
  have k1 := mkHid (kT.out w0 HB0.out)
  go_wp2_with (go_at_call 6; fail)
  refine k1.out.mono ?_
  rintro e w1 ⟨rfl, hG1, hb1, -, -⟩
  have HB1 := mkHid (HB0.out.trans (hb1.mono HB0.out.size))
  have k2 := mkHid (kS.out _ F.length w1 (hG1.out.mono (Nat.zero_le _) (Nat.le_refl _)))
  clear k1 hG1 hb1
  go_wp2_with (go_at_call 5; fail)
  refine k2.out.mono ?_
  rintro e w2 ⟨o0, c0, rfl, hC0, hb2⟩
  have HB2 := mkHid (HB1.out.trans (hb2.mono HB1.out.size))
  have HC0 := mkHid hC0
  clear k2 hC0 hb2
  -- the argument of the program's own
  have k3 := mkHid (kT.out w2 HB2.out)
  obtain ⟨lo, hlo⟩ : ∃ lo, w2.heap.size = lo := ⟨_, rfl⟩
  go_wp2_with (go_at_call 6; fail)
  refine k3.out.mono ?_
  rintro e w3 ⟨rfl, hG3, hb3, hS3, hc3⟩
  rw [hlo] at hG3 hb3 hS3 hc3 ⊢
  have HB3 := mkHid (HB2.out.trans (hb3.mono (by have := HB2.out.size; omega)))
  have HL3 := mkHid hb3
  have k4 := mkHid (kI.out lo F.length w3 (hG3.out.mono (Nat.zero_le _) (Nat.le_refl _)) hc3.out)
  clear k3 hb3
  go_wp2_with (go_at_call 7; fail)
  refine k4.out.mono ?_
  rintro e w4 ⟨o4, c4, E, k, rfl, hk, hkw, hC4, hE, hb4⟩
  have HB4 := mkHid (HB3.out.trans (hb4.mono HB3.out.size))
  have HL4 := mkHid (HL3.out.trans (hb4.mono (by have := HL3.out.size; omega)))
  have HX4 := mkHid hb4
  have HC4 := mkHid hC4
  have HE := mkHid hE
  have hk4 := mkHid hk
  have Hkw := mkHid hkw
  clear k4 hb4 hC4 hE hk hc3 hkw
  -- held against one another
  have eqC : ∀ (a b : Option Addr) (c c' : Nat) (w' : World), Cds w'.heap.size w' a L → Cds w'.heap.size w' b L → Calls Try.prog 8 #[.slice a L.length c, .slice b L.length c'] w' fun e w'' => e = .returned (.bool true) ∧ Below w'.heap.size w' w'' := fun a b c c' w' h1 h2 => lawEqCodes a b L c c' w' h1 h2 (by omega) hLf.out
  have HeqC := mkHid eqC
  have spc : ∀ w', Below lo w2 w' → lo ≤ w'.heap.size → Cds w'.heap.size w' o0 L := fun w' hb hs => ((hlo ▸ HC0.out).below hb).mono hs
  have Hspc := mkHid spc
  have hE2 : ∀ w', Cw k (.slice o4 L.length c4) E w' → Cds w'.heap.size w' o4 L := fun w' h => by
    have := h.cds
    rw [HE.out] at this
    exact this
  have HE2 := mkHid hE2
  clear eqC spc hE2
  have k5 := mkHid (HeqC.out o4 o0 c4 c0 w4 (HE2.out w4 HC4.out) (Hspc.out w4 HL4.out (by have := HL4.out.size; omega)))
  go_wp2_with (go_at_call 8; fail)
  refine k5.out.mono ?_
  rintro e w5 ⟨rfl, hb5⟩
  have HB5 := mkHid (HB4.out.trans (hb5.mono HB4.out.size))
  have HL5 := mkHid (HL4.out.trans (hb5.mono (by have := HL4.out.size; omega)))
  have HX5 := mkHid (HX4.out.trans (hb5.mono HX4.out.size))
  have HC5 := mkHid (HC4.out.below hb5)
  have hs5 : w4.heap.size ≤ w5.heap.size := hb5.size
  clear k5 hb5 HC4 HB4 HX4
  -- the argument reads as before
  have k6 := mkHid (kT.out w5 HB5.out)
  go_wp2_with (go_at_call 6; fail)
  refine k6.out.mono ?_
  rintro e w6 ⟨rfl, hG6, hb6, -, -⟩
  have HB6 := mkHid (HB5.out.trans (hb6.mono HB5.out.size))
  have HL6 := mkHid (HL5.out.trans (hb6.mono (by have := HL5.out.size; omega)))
  have HX6 := mkHid (HX5.out.trans (hb6.mono HX5.out.size))
  have HC6 := mkHid (HC5.out.below hb6)
  have hs6 : w5.heap.size ≤ w6.heap.size := hb6.size
  have k7 := mkHid (lawEqSFilterNode (some ⟨lo, 0, none⟩) _ F F.length F.length 0 0 w6 (((hG3.out.below HX6.out (Nat.le_refl _))).mono (Nat.zero_le _) HX6.out.size) (hG6.out.mono (Nat.zero_le _) (Nat.le_refl _)) hl Hfit.out)
  clear k6 hG6 hb6 HC5 HB5 HX5 HL5
  go_wp2_with (go_at_call 9; fail)
  refine k7.out.mono ?_
  rintro e w7 ⟨rfl, hb7⟩
  have HB7 := mkHid (HB6.out.trans (hb7.mono HB6.out.size))
  have HL7 := mkHid (HL6.out.trans (hb7.mono (by have := HL6.out.size; omega)))
  have HX7 := mkHid (HX6.out.trans (hb7.mono HX6.out.size))
  have HC7 := mkHid (HC6.out.below hb7)
  have hs7 : w6.heap.size ≤ w7.heap.size := hb7.size
  clear k7 hb7 HC6 HB6 HX6 HL6
  -- marks on the argument
  have hT7 : Thaw lo w3.heap.size w7 := fun p h1 h2 => by
    have h3 := (Soft.thaw hS3.out) p h1 h2
    unfold World.frozen? at h3 ⊢
    rw [HX7.out.block p.block h2]
    exact h3
  have k8 := mkHid (wkFilterNodes (some ⟨lo, 0, none⟩) F.length F.length 1 lo w3.heap.size w7 ((hG3.out.below HX7.out (Nat.le_refl _)).weak Hfit.out) hT7 HX7.out.size hl (by omega) (by omega))
  clear hT7 hG3 hS3
  go_wp2_with (go_at_call 10; fail)
  refine k8.out.mono ?_
  rintro e w8 ⟨q, rfl, -, hK8⟩
  have hlo7 : lo ≤ w7.heap.size := by have := HL7.out.size; omega
  have hlow := hK8.out.low hlo7
  have HB8 := mkHid (HB7.out.trans (hlow.mono (by have := HB2.out.size; omega)))
  have HL8 := mkHid (HL7.out.trans hlow)
  have HC8 := mkHid (HC7.out.kp hK8.out hk4.out)
  have hs8 : w7.heap.size ≤ w8.heap.size := hlow.size
  have u1 : decide ((q : Int) < 0) = false := decide_eq_false (by omega)
  have k9 := mkHid (HeqC.out o4 o0 c4 c0 w8 (HE2.out w8 HC8.out) (Hspc.out w8 HL8.out (by have := HL8.out.size; omega)))
  clear k8 hK8 hlow HC7 HB7 HX7 HL7
  go_wp2_with (go_at_call 8; fail)
  refine k9.out.mono ?_
  rintro e w9 ⟨rfl, hb9⟩
  have HB9 := mkHid (HB8.out.trans (hb9.mono HB8.out.size))
  have HL9 := mkHid (HL8.out.trans (hb9.mono (by have := HL8.out.size; omega)))
  have HC9 := mkHid (HC8.out.below hb9)
  have hs9 : w8.heap.size ≤ w9.heap.size := hb9.size
  clear k9 hb9 HC8 HB8 HL8
  -- marks on the answer
  have hEl : E.length = L.length := by rw [← HE.out, List.length_map]
  have hfE : ∀ e ∈ E, e.1.nd.names.length ≤ 1048576 ∧ e.1.nd.keys.length ≤ 1048576 := fun e he => by
    have := hLf.out e.1 (by rw [← HE.out]; exact List.mem_map_of_mem he)
    exact ⟨this.2.1, this.2.2.2.1⟩
  have hMe : endC 1 (E.map (·.1)) ≤ 1000000000000 := by
    have := endC_le 1048576 (E.map (·.1)) 1 (fun c hc => by
      obtain ⟨e, he, rfl⟩ := List.mem_map.1 hc
      exact hfE e he)
    rw [List.length_map, hEl] at this
    omega
  have HEl := mkHid hEl
  have HfE := mkHid hfE
  have HMe := mkHid hMe
  have hkk : k ≤ w9.heap.size := by have := Hkw.out; omega
  have hWk : W.heap.size ≤ k := by have := hk4.out; have := HB3.out.size; omega
  have hlk : lo ≤ k := by have := hk4.out; have := HL3.out.size; omega
  have kA := mkHid (lawMarkCodes o4 E L.length c4 k w9 hEl hMe hfE (by omega) hkk HC9.out)
  clear hEl hfE hMe
  obtain ⟨M, hMM⟩ : ∃ M, endC 1 (E.map (·.1)) = M := ⟨_, rfl⟩
  rw [hMM] at kA
  have HMM := mkHid hMM
  clear hMM
  go_wp2_with (go_at_call 11; fail)
  refine kA.out.mono ?_
  rintro e wA ⟨rfl, hCA, hbA⟩
  have HBA := mkHid (HB9.out.trans (hbA.out.mono hWk))
  have HLA := mkHid (HL9.out.trans (hbA.out.mono hlk))
  have hsA : w9.heap.size ≤ wA.heap.size := hbA.out.size
  have kB := mkHid (lawHeldCodes o4 E L.length c4 k wA HEl.out HMe.out HfE.out (by omega) hCA.out)
  rw [HMM.out] at kB
  clear kA hbA HC9 HB9 HL9
  go_wp2_with (go_at_call 12; fail)
  refine kB.out.mono ?_
  rintro e wB ⟨rfl, hbB⟩
  have HBB := mkHid (HBA.out.trans (hbB.mono HBA.out.size))
  have HLB := mkHid (HLA.out.trans (hbB.mono (by have := HLA.out.size; omega)))
  have HCB := mkHid (hCA.out.below hbB)
  have hsB : wA.heap.size ≤ wB.heap.size := hbB.size
  have u2 : decide ((M : Int) < 0) = false := decide_eq_false (by omega)
  have u3 : ((M : Int) != (M : Int)) = false := by simp
  clear kB hbB hCA HBA HLA
  -- again
  have kC := mkHid (kT.out wB HBB.out)
  go_wp2_with (go_at_call 6; fail)
  refine kC.out.mono ?_
  rintro e wC ⟨rfl, hGC, hbC, -, hcC⟩
  have HBC := mkHid (HBB.out.trans (hbC.mono HBB.out.size))
  have HLC := mkHid (HLB.out.trans (hbC.mono (by have := HLB.out.size; omega)))
  have HCC := mkHid (HCB.out.below hbC)
  have hsC : wB.heap.size ≤ wC.heap.size := hbC.size
  have kD := mkHid (kI.out wB.heap.size F.length wC (hGC.out.mono (Nat.zero_le _) (Nat.le_refl _)) hcC.out)
  clear kC hbC hGC hcC HBB HLB HCB
  go_wp2_with (go_at_call 7; fail)
  refine kD.out.mono ?_
  rintro e wD ⟨oD, cD, ED, kd, rfl, -, -, hCD, hED, hbD⟩
  have HBD := mkHid (HBC.out.trans (hbD.mono HBC.out.size))
  have HLD := mkHid (HLC.out.trans (hbD.mono (by have := HLC.out.size; omega)))
  have HCD := mkHid (HCC.out.below hbD)
  have hcds := hCD.cds
  rw [hED] at hcds
  have kE := mkHid (HeqC.out oD o0 cD c0 wD hcds (Hspc.out wD HLD.out (by have := HLD.out.size; omega)))
  clear kD hbD hCD hED hcds HBC HLC HCC
  go_wp2_with (go_at_call 8; fail)
  refine kE.out.mono ?_
  rintro e wE ⟨rfl, hbE⟩
  have HBE := mkHid (HBD.out.trans (hbE.mono HBD.out.size))
  have HCE := mkHid (HCD.out.below hbE)
  have kG := mkHid (lawHeldCodes o4 E L.length c4 k wE HEl.out HMe.out HfE.out (by omega) HCE.out)
  rw [HMM.out] at kG
  clear kE hbE HCD HBD
  go_wp2_with (go_at_call 12; fail)
  refine kG.out.mono ?_
  rintro e wG ⟨rfl, hbG⟩
  have HBG := mkHid (HBE.out.trans (hbG.mono HBE.out.size))
  clear kG hbG
  go_wp2
  go_ret
  exact ⟨rfl, HBG.out⟩
end Go.Proofs.Ytonnmbkfjiddnaa
