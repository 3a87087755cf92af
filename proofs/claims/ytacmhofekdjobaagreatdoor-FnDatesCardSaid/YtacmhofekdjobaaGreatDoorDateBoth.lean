
/- Both texts of a date, read. -/
import Derived.Test.YtacmhofekdjobaaGreatDoorDateReadAll
namespace Go.Proofs.YtacmhofekdjobaaGreatDoor
open Go.RowKit Go.Lib
set_option maxRecDepth 20000 in
theorem dg_two (v a : Nat) (h : v < 100) : Dg ⟨1, ⟨(Pl.twoN v).toArray⟩, a⟩ 2 v := ⟨rfl, rfl, (Pl.two_fact v h).1, (Pl.two_fact v h).2.2⟩
set_option maxRecDepth 20000 in
theorem dg_four (v a : Nat) (h : v < 10000) : Dg ⟨1, ⟨(Pl.twoN (v / 100) ++ Pl.twoN (v % 100)).toArray⟩, a⟩ 4 v := by
  refine ⟨rfl, rfl, ?_, ?_⟩
  · show (Pl.twoN (v / 100) ++ Pl.twoN (v % 100)).all Pl.digit = true
    rw [List.all_append, (Pl.two_fact (v / 100) (by omega)).1, (Pl.two_fact (v % 100) (by omega)).1]
    rfl
  · show numF 0 (Pl.twoN (v / 100) ++ Pl.twoN (v % 100)) = v
    rw [Pl.num_four _ _ (by omega) (by omega)]
    omega
set_option maxRecDepth 20000 in
theorem back_list (x : ByteArray) : (⟨x.data.toList.toArray⟩ : ByteArray) = x := by cases x; simp
set_option maxRecDepth 20000 in
theorem zone_parts (c : UInt8) (a b : Nat) (ha : a < 100) (hb : b < 100) (x : ByteArray) (hx : x = ⟨(c :: (Pl.twoN a ++ Pl.twoN b)).toArray⟩) :
    ∃ hp : 0 < x.size, x.size = 5 ∧ x[0]'hp = c ∧ (x.extract 1 x.size).data.toList.all Pl.digit = true ∧ numF 0 (x.extract 1 x.size).data.toList = a * 100 + b := by
  have hs : x.size = 5 := by rw [hx]; rfl
  have he : (x.extract 1 x.size).data.toList = Pl.twoN a ++ Pl.twoN b := by
    rw [ByteArray.data_extract, Array.toList_extract, hs, hx]
    rfl
  refine ⟨by omega, hs, by subst hx; rfl, ?_, ?_⟩
  · rw [he, List.all_append, (Pl.two_fact a ha).1, (Pl.two_fact b hb).1]
    rfl
  · rw [he, Pl.num_four a b ha hb]
set_option maxRecDepth 20000 in
theorem dt_stamp (t z : Int) (n : Dn) (hn : DnOk t z n) : Dt (tkP 0 (n.P [])) 0 n := by
  have h3 := hn.d3
  have hy := hn.y2
  have hh := hn.hh
  have hm := hn.mm
  have hs := hn.ss
  have hzh := hn.zh
  have hzm := hn.zm
  obtain ⟨zp, z1, z2, z3, z4⟩ := zone_parts (if n.neg then 45 else 43) n.zh n.zm (by omega) (by omega) _ rfl
  refine ⟨rfl, ?_, ⟨_, rfl, dg_two n.dd _ h3⟩, ⟨3, ?_⟩, ⟨_, rfl, dg_four n.yy _ (by omega)⟩, ⟨_, _, _, _, _, rfl, rfl, rfl, rfl, rfl, dg_two n.hh _ (by omega), ⟨rfl, rfl⟩, dg_two n.mm _ (by omega), ⟨rfl, rfl⟩, dg_two n.ss _ (by omega)⟩, ⟨_, _, zp, rfl, z1, z2, z3, z4⟩⟩
  · intro t ht
    simp only [tkP, Dn.P, dateP, List.mem_cons, List.not_mem_nil, or_false] at ht
    rcases ht with rfl | rfl | rfl | rfl | rfl | rfl | rfl | rfl | rfl <;> simp
  · rw [← back_list (Pl.monthN n.mo)]
    rfl
set_option maxRecDepth 20000 in
theorem dt_full (t z : Int) (n : Dn) (hn : DnOk t z n) (j : Nat) (hj : j < 7) : Dt (tkP 0 (⟨[], 1, (Pl.dayN j).data.toList⟩ :: ⟨[], 5, [44]⟩ :: n.P [32])) 2 n := by
  have h3 := hn.d3
  have hy := hn.y2
  have hh := hn.hh
  have hm := hn.mm
  have hs := hn.ss
  have hzh := hn.zh
  have hzm := hn.zm
  obtain ⟨zp, z1, z2, z3, z4⟩ := zone_parts (if n.neg then 45 else 43) n.zh n.zm (by omega) (by omega) _ rfl
  have hdl := (Pl.day_facts ⟨j, hj⟩).2
  refine ⟨rfl, ?_, ⟨_, rfl, dg_two n.dd _ h3⟩, ⟨8, ?_⟩, ⟨_, rfl, dg_four n.yy _ (by omega)⟩, ⟨_, _, _, _, _, rfl, rfl, rfl, rfl, rfl, dg_two n.hh _ (by omega), ⟨rfl, rfl⟩, dg_two n.mm _ (by omega), ⟨rfl, rfl⟩, dg_two n.ss _ (by omega)⟩, ⟨_, _, zp, rfl, z1, z2, z3, z4⟩⟩
  · intro t ht
    simp only [tkP, Dn.P, dateP, List.mem_cons, List.not_mem_nil, or_false] at ht
    rcases ht with rfl | rfl | rfl | rfl | rfl | rfl | rfl | rfl | rfl | rfl | rfl <;> simp
  · rw [← back_list (Pl.monthN n.mo)]
    show some (Tk.mk 1 _ (0 + 0 + (Pl.dayN j).data.toList.length + 0 + 1 + 1 + 2 + 1)) = _
    rw [hdl]
set_option maxRecDepth 20000 in
theorem size_list (s : ByteArray) : s.size = s.data.toList.length := by simp
set_option maxRecDepth 20000 in
theorem readStamp (x z : Int) (w : World) (hok : okD x z = true) (hM : MTab w) (hDy : DTab w) :
    Calls Tryz.prog 8 #[.string (dateT (x + 60 * z) z ⟨#[32]⟩)] w fun e w' => e = .returned (.agg #[.bool true, .int .i64 x, .int .i64 z]) ∧ Below w.heap.size w w' := by
  obtain ⟨o1, o2, o3, o4, o5, o6⟩ := okD_yes hok
  have hn := dn_ok (x + 60 * z) z o5 o6 o1 o2
  have hp := date_pieces (x + 60 * z) z o5 o6
  have hsz := date_size (x + 60 * z) z ⟨#[32]⟩ rfl o5 o6
  have hD := dt_stamp _ _ _ hn
  generalize dnOf (x + 60 * z) z = n at *
  generalize dateT (x + 60 * z) z ⟨#[32]⟩ = s at *
  have hokP : okP (n.P []) = true := dateP_ok [] n.dd n.mo n.yy n.hh n.mm n.ss n.neg n.zh n.zm rfl hn.d3 hn.mo (by have := hn.y2; omega) (by have := hn.hh; omega) (by have := hn.mm; omega) (by have := hn.ss; omega) (by have := hn.zh; omega) (by have := hn.zm; omega)
  have hT := toks_pieces s (n.P []) [] (by rw [hp]; rfl) hokP
  refine implReadDate s _ 0 n (x + 60 * z) x z w (by omega) (clean_pieces s _ hp hokP) hT hD (by omega) hn o1 o2 o5 o6 (by omega) o3 o4 hM hDy ?_
  intro B g q w hr hd
  exact rdWeekdayNo B g 0 _ s q false ⟨(Pl.twoN n.dd).toArray⟩ 0 w hr (Nat.le_trans (Nat.le_of_eq hD.len) (by decide)) (by omega) hD.kinds (by show 2 ≤ 100; omega) (fun i hi => Pl.two_noday ⟨n.dd, hn.d3⟩ ⟨i, hi⟩) rfl hd
set_option maxRecDepth 20000 in
theorem readFull (x z : Int) (w : World) (hok : okD x z = true) (hM : MTab w) (hDy : DTab w) :
    Calls Tryz.prog 8 #[.string (fullT x z)] w fun e w' => e = .returned (.agg #[.bool true, .int .i64 x, .int .i64 z]) ∧ Below w.heap.size w w' := by
  obtain ⟨o1, o2, o3, o4, o5, o6⟩ := okD_yes hok
  have hn := dn_ok (x + 60 * z) z o5 o6 o1 o2
  have hp := full_pieces x z hok
  have hj : ((3 + (x + 60 * z) / 86400) % 7).toNat < 7 := by omega
  have hsz : (fullT x z).size = 31 := by
    rw [fullT, if_pos hok, ByteArray.size_append, ByteArray.size_append, Pl.day_size _ hj, date_size _ _ _ rfl o5 o6]
    rfl
  generalize ((3 + (x + 60 * z) / 86400) % 7).toNat = j at *
  have hD := dt_full _ _ _ hn j hj
  generalize dnOf (x + 60 * z) z = n at *
  generalize fullT x z = s at *
  have hokD : okP (n.P [32]) = true := dateP_ok [32] n.dd n.mo n.yy n.hh n.mm n.ss n.neg n.zh n.zm rfl hn.d3 hn.mo (by have := hn.y2; omega) (by have := hn.hh; omega) (by have := hn.mm; omega) (by have := hn.ss; omega) (by have := hn.zh; omega) (by have := hn.zm; omega)
  have hdf := Pl.day_facts ⟨j, hj⟩
  have hokP : okP (⟨[], 1, (Pl.dayN j).data.toList⟩ :: ⟨[], 5, [44]⟩ :: n.P [32]) = true := by
    rw [okP, okP, hokD]
    simp only [pcOk, flatP, headOk, List.nil_append, List.cons_append, atom_comma]
    rw [hdf.1, hdf.2]
    simp
  have hT := toks_pieces s _ [] (by rw [hp]; rfl) hokP
  refine implReadDate s _ 2 n (x + 60 * z) x z w (by omega) (clean_pieces s _ hp hokP) hT hD (by omega) hn o1 o2 o5 o6 (by omega) o3 o4 hM hDy ?_
  intro B g q w hr hd
  exact rdWeekday B g 0 _ s q false j 0 ⟨5, ⟨#[44]⟩, 0 + 0 + (Pl.dayN j).data.toList.length + 0⟩ w hr (Nat.le_trans (Nat.le_of_eq hD.len) (by decide)) (by omega) hD.kinds hj (by rw [← back_list (Pl.dayN j)]; rfl) rfl rfl rfl hd
end Go.Proofs.YtacmhofekdjobaaGreatDoor
