/-
  Walks: the law of queues, over what the program answers.
-/
import Derived.Test.YtbikdpljhnhcaaaLwGn
namespace Go.Proofs.Ytbikdpljhnhcaaa
open Go.RowKit

theorem delay_cases {x : Gt} (h : Ok2 x) {q : Nat} (hq : q < 2) (ho : 0 ≤ x.owner) :
    (0 ≤ x.queues.getD q (-1) ∧ delayE x q = (x, -1, false)) ∨ (x.queues.getD q (-1) < 0 ∧ delayE x q = (nextG { x with queues := x.queues.set q x.owner }, (nextG x).owner, true)) := by
  have h2 := h.two
  have hz : inZ 0 ((x.queues.length : Int) - 1) (q : Int) = true := inZ_yes.2 ⟨by omega, by omega⟩
  unfold delayE
  rw [hz, h.ok]
  by_cases hg : 0 ≤ x.queues.getD q (-1)
  · exact .inl ⟨hg, if_pos (.inr (.inr (.inr (by simpa using hg))))⟩
  · refine .inr ⟨by omega, ?_⟩
    rw [if_neg]
    · rfl
    · simp only [Int.toNat_natCast]
      rintro (h | h | h | h)
      · cases h
      · omega
      · cases h
      · exact hg h
theorem cont_cases {x : Gt} (h : Ok2 x) {q : Nat} (hq : q < 2) (ho : 0 ≤ x.owner) :
    (0 ≤ x.queues.getD q (-1) ∧ contE x q = ({ x with owner := x.queues.getD q (-1), queues := x.queues.set q (-1) }, x.queues.getD q (-1))) ∨ (x.queues.getD q (-1) < 0 ∧ contE x q = (nextG x, (nextG x).owner)) := by
  have h2 := h.two
  have hz : inZ 0 ((x.queues.length : Int) - 1) (q : Int) = true := inZ_yes.2 ⟨by omega, by omega⟩
  have hc : ¬ (gateOkB x = false ∨ x.owner < 0 ∨ inZ 0 ((x.queues.length : Int) - 1) (q : Int) = false) := by
    rw [hz, h.ok]
    simp
    omega
  unfold contE
  rw [if_neg hc]
  by_cases hg : x.queues.getD q (-1) < 0
  · exact .inr ⟨hg, if_pos (by simpa using hg)⟩
  · exact .inl ⟨by omega, if_neg (by simpa using hg)⟩
theorem none_cases {x : Gt} (ho : x.owner < 0) (q : Int) : leaveE x = (x, -1) ∧ delayE x q = (x, -1, false) := ⟨if_pos (.inr ho), if_pos (.inr (.inl ho))⟩

set_option maxRecDepth 100000 in
set_option maxHeartbeats 8000000 in
theorem lawQueues (IL : ImpLeave) (ID : ImpDelayIn) (IC : ImpContinueAt) (IO : ImpGateOk) (w : World) (v : Value) (n : Nat) (H : CodeAt w w.heap.size v n) :
    Calls Try.prog 4 #[v] w fun e w' => e = .returned (.bool true) ∧ Below w.heap.size w w' := by
  have HIL := hide IL
  have HID := hide ID
  have HIC := hide IC
  have HIO := hide IO
  clear IL ID IC IO
  obtain ⟨ao, c, rfl⟩ := H.slice
  have BG := fun z => hide (big_any z ao n c)
  by_cases hn : n ≤ 1048576
  case neg =>
    have eb : decide (1048576 < n) = true := decide_eq_true (by omega)
    simp only [eb] at BG
    clear eb
    go_enter Try.func4, Try.ntmps4
    go_wp2_with (go_at_call 6; refine (unhide (BG _)).mono ?_; rintro e z ⟨rfl, rfl⟩)
    go_ret
    exact ⟨rfl, Below.refl _ _⟩
  have eb : decide (1048576 < n) = false := decide_eq_false (by omega)
  simp only [eb] at BG
  clear eb
  have HC : Hid (∀ z, Below w.heap.size w z → CodeAt z w.heap.size (.slice ao n c) n) := fun z h => H.below h
  clear H
  go_enter Try.func4, Try.ntmps4
  go_wp2_with (first | (go_at_call 6; refine (unhide (BG _)).mono ?_; rintro e z ⟨rfl, rfl⟩) | fail)
  refine (drawGate w w.heap.size _ n hn (HC.out _ (Below.refl _ _)) (Nat.le_refl _)).mono ?_
  rintro e z1 ⟨v1, v2, x, rfl, ho, hx, hb⟩
  have HX := hide hx
  clear hx
  obtain ⟨px1, kx1, rfl⟩ := form_own ho.o1
  obtain ⟨px2, kx2, rfl⟩ := form_own ho.o2
  have B0 := hide hb
  clear hb
  have hba : Below z1.heap.size z1 (z1.alloc (.cells #[.int .i64 x.owner, .slice px1 x.waits.length kx1, .slice px2 x.queues.length kx2] 26)) := (Below.refl _ _).alloc (Nat.le_refl _) _
  have EN1 := hide (GB.made (ho.lo (b := w.heap.size) (by have := B0.out.size; omega)))
  clear ho
  have BB_2 := hide (B0.out.trans (hba.mono B0.out.size))
  clear B0
  clear hba
  obtain ⟨Y1, hY1⟩ : ∃ Z, z1.alloc (.cells #[.int .i64 x.owner, .slice px1 x.waits.length kx1, .slice px2 x.queues.length kx2] 26) = Z := ⟨_, rfl⟩
  obtain ⟨Gx, hGx⟩ : ∃ G, z1.heap.size = G := ⟨_, rfl⟩
  have HY1 := hide hY1
  have HGx := hide hGx
  rw [hGx] at EN1
  rw [hY1] at EN1 BB_2
  clear hY1 hGx
  go_upto_region 4 with fail
  rw [HY1.out, HGx.out]
  have c_x_0 := (Lib.cell_of_heap EN1.out.bx 0).trans rfl
  have c_x_1 := (Lib.cell_of_heap EN1.out.bx 1).trans rfl
  have c_x_2 := (Lib.cell_of_heap EN1.out.bx 2).trans rfl
  by_cases hxo : x.owner < 0
  case pos =>
    obtain ⟨EL, ED⟩ := none_cases hxo 0
    go_wp2_with fail
    clear c_x_0 c_x_1 c_x_2
    refine (HIL.out _ _ x _ EN1.out.ow.at HX.out.len).mono ?_
    rw [EL]
    rintro e z3 ⟨v1, v2, rfl, ho, hb⟩
    obtain ⟨py1, ky1, rfl⟩ := form_own ho.o1
    obtain ⟨py2, ky2, rfl⟩ := form_own ho.o2
    have hlo := BB_2.out.size
    have ho' := ho.lo (b := w.heap.size) (by omega)
    clear ho hlo
    have Ex_3 := hide (EN1.out.stays hb)
    clear EN1
    have BB_3 := hide (BB_2.out.trans (hb.mono BB_2.out.size))
    clear BB_2
    clear hb EL
    have hba : Below z3.heap.size z3 (z3.alloc (.cells #[.int .i64 x.owner, .slice py1 x.waits.length ky1, .slice py2 x.queues.length ky2] 26)) := (Below.refl _ _).alloc (Nat.le_refl _) _
    have EN4 := hide (GB.made (ho'.lo (b := w.heap.size) (by have := BB_3.out.size; omega)))
    clear ho'
    have Ex_5 := hide (Ex_3.out.stays hba)
    clear Ex_3
    have BB_5 := hide (BB_3.out.trans (hba.mono BB_3.out.size))
    clear BB_3
    clear hba
    obtain ⟨Y4, hY4⟩ : ∃ Z, z3.alloc (.cells #[.int .i64 x.owner, .slice py1 x.waits.length ky1, .slice py2 x.queues.length ky2] 26) = Z := ⟨_, rfl⟩
    obtain ⟨Gy, hGy⟩ : ∃ G, z3.heap.size = G := ⟨_, rfl⟩
    have HY4 := hide hY4
    have HGy := hide hGy
    rw [hGy] at EN4
    rw [hY4] at Ex_5 EN4 BB_5
    clear hY4 hGy
    go_upto_region 6 with fail
    rw [HY4.out, HGy.out]
    have c_x_0 := (Lib.cell_of_heap Ex_5.out.bx 0).trans rfl
    have c_x_1 := (Lib.cell_of_heap Ex_5.out.bx 1).trans rfl
    have c_x_2 := (Lib.cell_of_heap Ex_5.out.bx 2).trans rfl
    go_wp2_with fail
    clear c_x_0 c_x_1 c_x_2
    refine (HID.out _ _ x 0 _ Ex_5.out.ow.at HX.out.len).mono ?_
    rw [ED]
    rintro e z4 ⟨v1, v2, rfl, ho, hb⟩
    obtain ⟨pu1, ku1, rfl⟩ := form_own ho.o1
    obtain ⟨pu2, ku2, rfl⟩ := form_own ho.o2
    have hlo := BB_5.out.size
    have ho' := ho.lo (b := w.heap.size) (by omega)
    clear ho hlo
    have Ex_6 := hide (Ex_5.out.stays hb)
    clear Ex_5
    have Ey_6 := hide (EN4.out.stays hb)
    clear EN4
    have BB_6 := hide (BB_5.out.trans (hb.mono BB_5.out.size))
    clear BB_5
    clear hb ED
    have hba : Below z4.heap.size z4 (z4.alloc (.cells #[.int .i64 x.owner, .slice pu1 x.waits.length ku1, .slice pu2 x.queues.length ku2] 26)) := (Below.refl _ _).alloc (Nat.le_refl _) _
    have EN7 := hide (GB.made (ho'.lo (b := w.heap.size) (by have := BB_6.out.size; omega)))
    clear ho'
    have Ex_8 := hide (Ex_6.out.stays hba)
    clear Ex_6
    have Ey_8 := hide (Ey_6.out.stays hba)
    clear Ey_6
    have BB_8 := hide (BB_6.out.trans (hba.mono BB_6.out.size))
    clear BB_6
    clear hba
    obtain ⟨Y7, hY7⟩ : ∃ Z, z4.alloc (.cells #[.int .i64 x.owner, .slice pu1 x.waits.length ku1, .slice pu2 x.queues.length ku2] 26) = Z := ⟨_, rfl⟩
    obtain ⟨Gu, hGu⟩ : ∃ G, z4.heap.size = G := ⟨_, rfl⟩
    have HY7 := hide hY7
    have HGu := hide hGu
    rw [hGu] at EN7
    rw [hY7] at Ex_8 Ey_8 EN7 BB_8
    clear hY7 hGu
    go_upto_region 7 with fail
    rw [HY7.out, HGu.out]
    have c_x_0 := (Lib.cell_of_heap Ex_8.out.bx 0).trans rfl
    have c_x_1 := (Lib.cell_of_heap Ex_8.out.bx 1).trans rfl
    have c_x_2 := (Lib.cell_of_heap Ex_8.out.bx 2).trans rfl
    have c_y_0 := (Lib.cell_of_heap Ey_8.out.bx 0).trans rfl
    have c_y_1 := (Lib.cell_of_heap Ey_8.out.bx 1).trans rfl
    have c_y_2 := (Lib.cell_of_heap Ey_8.out.bx 2).trans rfl
    go_wp2_with fail
    clear c_x_0 c_x_1 c_x_2
    clear c_y_0 c_y_1 c_y_2
    refine (sameGate_same _ _ _ _ x _ Ey_8.out.ow.at Ex_8.out.ow.at HX.out.len).mono ?_
    rintro e z5 ⟨rfl, hb⟩
    have Ex_9 := hide (Ex_8.out.stays hb)
    clear Ex_8
    have Ey_9 := hide (Ey_8.out.stays hb)
    clear Ey_8
    have Eu_9 := hide (EN7.out.stays hb)
    clear EN7
    have BB_9 := hide (BB_8.out.trans (hb.mono BB_8.out.size))
    clear BB_8
    clear hb
    go_wp2
    go_ret
    exact ⟨rfl, BB_9.out⟩
  have hxp : 0 ≤ x.owner := by omega
  go_wp2_with fail
  clear c_x_0 c_x_1 c_x_2
  refine (places_any _ w.heap.size _ n hn (HC.out _ BB_2.out) BB_2.out.size).mono ?_
  rintro e z2 ⟨pv, xs, rfl, hl12, hx12, ho2, hb2⟩
  obtain ⟨gp, cap, rfl, hgp, hpc⟩ := row12 hl12 ho2
  have Ex_10 := hide (EN1.out.stays hb2)
  clear EN1
  have BB_10 := hide (BB_2.out.trans (hb2.mono BB_2.out.size))
  clear BB_2
  have c0 := hpc 0 (by omega)
  clear hb2 ho2 hpc hx12 hgp
  obtain ⟨q0, hq0⟩ : ∃ q, xs[0] = q := ⟨_, rfl⟩
  rw [hq0] at c0
  clear hq0
  obtain ⟨q, hp⟩ : ∃ p, q0 % 2 = p := ⟨_, rfl⟩
  have hq2 : q < 2 := by rw [← hp]; exact Nat.mod_lt _ (by decide)
  have hrem : (q0 : Int) % 2 = (q : Int) := by rw [← hp]; exact (Int.natCast_emod q0 2).symm
  clear hp hl12
  have c_x_0 := (Lib.cell_of_heap Ex_10.out.bx 0).trans rfl
  have c_x_1 := (Lib.cell_of_heap Ex_10.out.bx 1).trans rfl
  have c_x_2 := (Lib.cell_of_heap Ex_10.out.bx 2).trans rfl
  go_wp2_with fail
  clear c_x_0 c_x_1 c_x_2
  refine (HID.out _ _ x (q : Int) z2 Ex_10.out.ow.at HX.out.len).mono ?_
  rintro e z3 ⟨v1, v2, rfl, ho, hb⟩
  have HCD := hide (delay_cases HX.out hq2 hxp)
  have HXD := hide (HX.out.delay (q : Int))
  obtain ⟨y, hy⟩ : ∃ y, (delayE x (q : Int)).1 = y := ⟨_, rfl⟩
  obtain ⟨nx, hnx⟩ : ∃ b, (delayE x (q : Int)).2.1 = b := ⟨_, rfl⟩
  obtain ⟨ok, hok⟩ : ∃ b, (delayE x (q : Int)).2.2 = b := ⟨_, rfl⟩
  have EA : Hid (delayE x (q : Int) = (y, nx, ok)) := by rw [← hy, ← hnx, ← hok]; rfl
  rw [hy] at ho HXD ⊢
  rw [hnx, hok]
  rw [EA.out] at HCD
  clear hy hnx hok EA
  obtain ⟨py1, ky1, rfl⟩ := form_own ho.o1
  obtain ⟨py2, ky2, rfl⟩ := form_own ho.o2
  have hlo := BB_10.out.size
  have ho' := ho.lo (b := w.heap.size) (by omega)
  clear ho hlo
  have Ex_11 := hide (Ex_10.out.stays hb)
  clear Ex_10
  have BB_11 := hide (BB_10.out.trans (hb.mono BB_10.out.size))
  clear BB_10
  clear hb c0
  have hba : Below z3.heap.size z3 (z3.alloc (.cells #[.int .i64 y.owner, .slice py1 y.waits.length ky1, .slice py2 y.queues.length ky2] 26)) := (Below.refl _ _).alloc (Nat.le_refl _) _
  have EN12 := hide (GB.made (ho'.lo (b := w.heap.size) (by have := BB_11.out.size; omega)))
  clear ho'
  have Ex_13 := hide (Ex_11.out.stays hba)
  clear Ex_11
  have BB_13 := hide (BB_11.out.trans (hba.mono BB_11.out.size))
  clear BB_11
  clear hba
  obtain ⟨Y12, hY12⟩ : ∃ Z, z3.alloc (.cells #[.int .i64 y.owner, .slice py1 y.waits.length ky1, .slice py2 y.queues.length ky2] 26) = Z := ⟨_, rfl⟩
  obtain ⟨Gy, hGy⟩ : ∃ G, z3.heap.size = G := ⟨_, rfl⟩
  have HY12 := hide hY12
  have HGy := hide hGy
  rw [hGy] at EN12
  rw [hY12] at Ex_13 EN12 BB_13
  clear hY12 hGy
  go_upto_region 10 with fail
  rw [HY12.out, HGy.out]
  obtain ⟨g, hg⟩ : ∃ g, x.queues.getD q (-1) = g := ⟨_, rfl⟩
  have hqx : q < x.queues.length := by rw [HX.out.two]; exact hq2
  have HQW : Hid (∀ z v1, GtAt z v1 (.slice px2 x.queues.length kx2) x → ∃ a, px2 = some a ∧ z.cell? (a.add q) = some (.int .i64 g)) := fun z v1 h => by
    obtain ⟨ao1, c1, e1, hc1⟩ := h.a2
    injection e1 with e2 e3 e4
    subst e2
    obtain ⟨a, ha, _, hx⟩ := hc1 q hqx
    refine ⟨a, ha, ?_⟩
    rw [hx, ← hg]
    simp [List.getD, hqx]
  rw [hg] at HCD
  have HG := hide hg
  clear hg
  obtain ⟨pa, rfl, hpc⟩ := HQW.out _ _ Ex_13.out.ow.at
  have hq0' : (0 : Int) ≤ (q : Int) := by omega
  have hq1' : (q : Int) < (x.queues.length : Int) := by omega
  have hok : ok = decide (g < 0) := by
    rcases HCD.out with ⟨h1, h2⟩ | ⟨h1, h2⟩
    · injection h2 with _ h3
      injection h3 with _ h4
      rw [h4, decide_eq_false (by omega)]
    · injection h2 with _ h3
      injection h3 with _ h4
      rw [h4, decide_eq_true h1]
  subst hok
  have c_x_0 := (Lib.cell_of_heap Ex_13.out.bx 0).trans rfl
  have c_x_1 := (Lib.cell_of_heap Ex_13.out.bx 1).trans rfl
  have c_x_2 := (Lib.cell_of_heap Ex_13.out.bx 2).trans rfl
  go_upto_region 12 with fail
  go_wp2_with fail
  clear c_x_0 c_x_1 c_x_2
  refine (HIC.out _ _ x (q : Int) _ Ex_13.out.ow.at HX.out.len).mono ?_
  rintro e z4 ⟨v1, v2, rfl, ho, hb⟩
  have HCC := hide (cont_cases HX.out hq2 hxp)
  have HXC := hide (HX.out.cont (q : Int))
  obtain ⟨u, hu⟩ : ∃ y, (contE x (q : Int)).1 = y := ⟨_, rfl⟩
  obtain ⟨wk, hwk⟩ : ∃ b, (contE x (q : Int)).2 = b := ⟨_, rfl⟩
  have EC : Hid (contE x (q : Int) = (u, wk)) := by rw [← hu, ← hwk]; rfl
  rw [hu] at ho HXC ⊢
  rw [hwk]
  rw [EC.out, HG.out] at HCC
  clear hu hwk EC
  obtain ⟨pu1, ku1, rfl⟩ := form_own ho.o1
  obtain ⟨pu2, ku2, rfl⟩ := form_own ho.o2
  have hlo := BB_13.out.size
  have ho' := ho.lo (b := w.heap.size) (by omega)
  clear ho hlo
  have Ex_14 := hide (Ex_13.out.stays hb)
  clear Ex_13
  have Ey_14 := hide (EN12.out.stays hb)
  clear EN12
  have BB_14 := hide (BB_13.out.trans (hb.mono BB_13.out.size))
  clear BB_13
  clear hb hpc
  have hba : Below z4.heap.size z4 (z4.alloc (.cells #[.int .i64 u.owner, .slice pu1 u.waits.length ku1, .slice pu2 u.queues.length ku2] 26)) := (Below.refl _ _).alloc (Nat.le_refl _) _
  have EN15 := hide (GB.made (ho'.lo (b := w.heap.size) (by have := BB_14.out.size; omega)))
  clear ho'
  have Ex_16 := hide (Ex_14.out.stays hba)
  clear Ex_14
  have Ey_16 := hide (Ey_14.out.stays hba)
  clear Ey_14
  have BB_16 := hide (BB_14.out.trans (hba.mono BB_14.out.size))
  clear BB_14
  clear hba
  obtain ⟨Y15, hY15⟩ : ∃ Z, z4.alloc (.cells #[.int .i64 u.owner, .slice pu1 u.waits.length ku1, .slice pu2 u.queues.length ku2] 26) = Z := ⟨_, rfl⟩
  obtain ⟨Gu, hGu⟩ : ∃ G, z4.heap.size = G := ⟨_, rfl⟩
  have HY15 := hide hY15
  have HGu := hide hGu
  rw [hGu] at EN15
  rw [hY15] at Ex_16 Ey_16 EN15 BB_16
  clear hY15 hGu
  go_upto_region 13 with fail
  rw [HY15.out, HGu.out]
  obtain ⟨pa2, epa, hpc⟩ := HQW.out _ _ Ex_16.out.ow.at
  injection epa with epa
  subst epa
  by_cases hg0 : g < 0
  case neg =>
    rcases HCC.out with ⟨h1, h2⟩ | ⟨h1, h2⟩
    case inr => omega
    injection h2 with hu hwk
    subst hwk
    have huo : u.owner = wk := by rw [hu]
    have huw : u.waits = x.waits := by rw [hu]
    have huq : u.queues = x.queues.set q (-1) := by rw [hu]
    have hql : u.queues.length = x.queues.length := by rw [huq, List.length_set]
    have hdg : decide (wk < 0) = false := decide_eq_false hg0
    rw [hdg]
    have hqu : q < u.queues.length := by rw [hql]; exact hqx
    obtain ⟨pb, epb, hpu⟩ : ∃ a, pu2 = some a ∧ Y15.cell? (a.add q) = some (.int .i64 (-1)) := by
      obtain ⟨ao1, c1, e1, hc1⟩ := EN15.out.ow.at.a2
      injection e1 with e2 e3 e4
      subst e2
      obtain ⟨a, ha, _, hx⟩ := hc1 q hqu
      refine ⟨a, ha, ?_⟩
      rw [hx]
      simp [huq]
    subst epb
    have HWU := hide (show IntsAt Y15 (.slice pu1 u.waits.length ku1) x.waits by have := EN15.out.ow.at.a1; rw [huw] at this; rw [huw]; exact this)
    have HWX := hide Ex_16.out.ow.at.a1
    have c_x_0 := (Lib.cell_of_heap Ex_16.out.bx 0).trans rfl
    have c_x_1 := (Lib.cell_of_heap Ex_16.out.bx 1).trans rfl
    have c_x_2 := (Lib.cell_of_heap Ex_16.out.bx 2).trans rfl
    have c_u_0 := (Lib.cell_of_heap EN15.out.bx 0).trans rfl
    have c_u_1 := (Lib.cell_of_heap EN15.out.bx 1).trans rfl
    have c_u_2 := (Lib.cell_of_heap EN15.out.bx 2).trans rfl
    rw [huo] at c_u_0
    rw [hql] at c_u_2
    clear HCC HCD hu huo huw huq hql hdg hqu h1
    go_wp2_with (go_at_call 16; refine (sameIntsG_same _ _ x.waits _ HWU.out HWX.out HX.out.len.l1).mono ?_; rintro e z5 ⟨rfl, hb⟩)
    go_ret
    exact ⟨rfl, BB_16.out.trans (hb.mono BB_16.out.size)⟩
  rcases HCD.out with ⟨h1, h2⟩ | ⟨h1, h2⟩
  case inl => omega
  injection h2 with hy h3
  injection h3 with hnx _
  have hyo : y.owner = nx := by rw [hy, hnx]; rfl
  have hyq : y.queues = x.queues.set q x.owner := by rw [hy]; rfl
  have hql : y.queues.length = x.queues.length := by rw [hyq, List.length_set]
  have hdg : decide (g < 0) = true := decide_eq_true hg0
  rw [hdg]
  have hqy : q < y.queues.length := by rw [hql]; exact hqx
  have hqc : ∀ z v1, GtAt z v1 (.slice py2 y.queues.length ky2) y → ∃ a, py2 = some a ∧ z.cell? (a.add q) = some (.int .i64 x.owner) := fun z v1 h => by
    obtain ⟨ao1, c1, e1, hc1⟩ := h.a2
    injection e1 with e2 e3 e4
    subst e2
    obtain ⟨a, ha, _, hx⟩ := hc1 q hqy
    refine ⟨a, ha, ?_⟩
    rw [hx]
    simp [hyq]
  obtain ⟨pb, epb, _⟩ := hqc _ _ Ey_16.out.ow.at
  subst epb
  have HRC : Hid (∀ z, Below Y15.heap.size Y15 z → z.cell? (pb.add q) = some (.int .i64 x.owner)) := fun z hb => by
    obtain ⟨a, ea, hc⟩ := hqc z _ (Ey_16.out.stays hb).ow.at
    injection ea with ea
    subst ea
    exact hc
  clear hqc
  have KC : Hid (∀ z : World, Below Y15.heap.size Y15 z → (z.cell? ⟨Gx, 0, none⟩ = some (.int .i64 x.owner) ∧ z.cell? ⟨Gx, 1, none⟩ = some (.slice px1 x.waits.length kx1) ∧ z.cell? ⟨Gx, 2, none⟩ = some (.slice (some pa) x.queues.length kx2) ∧ z.cell? ⟨Gy, 0, none⟩ = some (.int .i64 y.owner) ∧ z.cell? ⟨Gy, 1, none⟩ = some (.slice py1 y.waits.length ky1) ∧ z.cell? ⟨Gy, 2, none⟩ = some (.slice (some pb) y.queues.length ky2) ∧ z.cell? ⟨Gu, 0, none⟩ = some (.int .i64 u.owner) ∧ z.cell? ⟨Gu, 1, none⟩ = some (.slice pu1 u.waits.length ku1) ∧ z.cell? ⟨Gu, 2, none⟩ = some (.slice pu2 u.queues.length ku2) ∧ z.cell? (pb.add q) = some (.int .i64 x.owner) ∧ Hid (Below Y15.heap.size Y15 z))) := fun z hz => ⟨Lib.cell_of_heap (Ex_16.out.stays hz).bx 0, Lib.cell_of_heap (Ex_16.out.stays hz).bx 1, Lib.cell_of_heap (Ex_16.out.stays hz).bx 2, Lib.cell_of_heap (Ey_16.out.stays hz).bx 0, Lib.cell_of_heap (Ey_16.out.stays hz).bx 1, Lib.cell_of_heap (Ey_16.out.stays hz).bx 2, Lib.cell_of_heap (EN15.out.stays hz).bx 0, Lib.cell_of_heap (EN15.out.stays hz).bx 1, Lib.cell_of_heap (EN15.out.stays hz).bx 2, HRC.out _ hz, hz⟩
  have KV : Hid (∀ z : World, (z.cell? ⟨Gx, 0, none⟩ = some (.int .i64 x.owner) ∧ z.cell? ⟨Gx, 1, none⟩ = some (.slice px1 x.waits.length kx1) ∧ z.cell? ⟨Gx, 2, none⟩ = some (.slice (some pa) x.queues.length kx2) ∧ z.cell? ⟨Gy, 0, none⟩ = some (.int .i64 y.owner) ∧ z.cell? ⟨Gy, 1, none⟩ = some (.slice py1 y.waits.length ky1) ∧ z.cell? ⟨Gy, 2, none⟩ = some (.slice (some pb) y.queues.length ky2) ∧ z.cell? ⟨Gu, 0, none⟩ = some (.int .i64 u.owner) ∧ z.cell? ⟨Gu, 1, none⟩ = some (.slice pu1 u.waits.length ku1) ∧ z.cell? ⟨Gu, 2, none⟩ = some (.slice pu2 u.queues.length ku2) ∧ z.cell? (pb.add q) = some (.int .i64 x.owner) ∧ Hid (Below Y15.heap.size Y15 z)) → Below Y15.heap.size Y15 z) := fun z hz => hz.2.2.2.2.2.2.2.2.2.2.out
  have KP : Hid (∀ z z' : World, (z.cell? ⟨Gx, 0, none⟩ = some (.int .i64 x.owner) ∧ z.cell? ⟨Gx, 1, none⟩ = some (.slice px1 x.waits.length kx1) ∧ z.cell? ⟨Gx, 2, none⟩ = some (.slice (some pa) x.queues.length kx2) ∧ z.cell? ⟨Gy, 0, none⟩ = some (.int .i64 y.owner) ∧ z.cell? ⟨Gy, 1, none⟩ = some (.slice py1 y.waits.length ky1) ∧ z.cell? ⟨Gy, 2, none⟩ = some (.slice (some pb) y.queues.length ky2) ∧ z.cell? ⟨Gu, 0, none⟩ = some (.int .i64 u.owner) ∧ z.cell? ⟨Gu, 1, none⟩ = some (.slice pu1 u.waits.length ku1) ∧ z.cell? ⟨Gu, 2, none⟩ = some (.slice pu2 u.queues.length ku2) ∧ z.cell? (pb.add q) = some (.int .i64 x.owner) ∧ Hid (Below Y15.heap.size Y15 z)) → Below z.heap.size z z' → (z'.cell? ⟨Gx, 0, none⟩ = some (.int .i64 x.owner) ∧ z'.cell? ⟨Gx, 1, none⟩ = some (.slice px1 x.waits.length kx1) ∧ z'.cell? ⟨Gx, 2, none⟩ = some (.slice (some pa) x.queues.length kx2) ∧ z'.cell? ⟨Gy, 0, none⟩ = some (.int .i64 y.owner) ∧ z'.cell? ⟨Gy, 1, none⟩ = some (.slice py1 y.waits.length ky1) ∧ z'.cell? ⟨Gy, 2, none⟩ = some (.slice (some pb) y.queues.length ky2) ∧ z'.cell? ⟨Gu, 0, none⟩ = some (.int .i64 u.owner) ∧ z'.cell? ⟨Gu, 1, none⟩ = some (.slice pu1 u.waits.length ku1) ∧ z'.cell? ⟨Gu, 2, none⟩ = some (.slice pu2 u.queues.length ku2) ∧ z'.cell? (pb.add q) = some (.int .i64 x.owner) ∧ Hid (Below Y15.heap.size Y15 z'))) := fun z z' hz hb => KC.out _ ((KV.out _ hz).trans (hb.mono (KV.out _ hz).size))
  have K0 := hide (KC.out _ (Below.refl Y15.heap.size Y15).drew)
  have OY : Hid (∀ z : World, (z.cell? ⟨Gx, 0, none⟩ = some (.int .i64 x.owner) ∧ z.cell? ⟨Gx, 1, none⟩ = some (.slice px1 x.waits.length kx1) ∧ z.cell? ⟨Gx, 2, none⟩ = some (.slice (some pa) x.queues.length kx2) ∧ z.cell? ⟨Gy, 0, none⟩ = some (.int .i64 y.owner) ∧ z.cell? ⟨Gy, 1, none⟩ = some (.slice py1 y.waits.length ky1) ∧ z.cell? ⟨Gy, 2, none⟩ = some (.slice (some pb) y.queues.length ky2) ∧ z.cell? ⟨Gu, 0, none⟩ = some (.int .i64 u.owner) ∧ z.cell? ⟨Gu, 1, none⟩ = some (.slice pu1 u.waits.length ku1) ∧ z.cell? ⟨Gu, 2, none⟩ = some (.slice pu2 u.queues.length ku2) ∧ z.cell? (pb.add q) = some (.int .i64 x.owner) ∧ Hid (Below Y15.heap.size Y15 z)) → Calls Try.prog 11 #[.agg #[.int .i64 y.owner, .slice py1 y.waits.length ky1, .slice (some pb) y.queues.length ky2]] z fun e w' => e = .returned (.bool true) ∧ Below z.heap.size z w') := fun z hz => by have h9 := HIO.out _ _ y z (Ey_16.out.stays (KV.out _ hz)).ow.at HXD.out.len; rw [HXD.out.ok] at h9; exact h9
  have OU : Hid (∀ z : World, (z.cell? ⟨Gx, 0, none⟩ = some (.int .i64 x.owner) ∧ z.cell? ⟨Gx, 1, none⟩ = some (.slice px1 x.waits.length kx1) ∧ z.cell? ⟨Gx, 2, none⟩ = some (.slice (some pa) x.queues.length kx2) ∧ z.cell? ⟨Gy, 0, none⟩ = some (.int .i64 y.owner) ∧ z.cell? ⟨Gy, 1, none⟩ = some (.slice py1 y.waits.length ky1) ∧ z.cell? ⟨Gy, 2, none⟩ = some (.slice (some pb) y.queues.length ky2) ∧ z.cell? ⟨Gu, 0, none⟩ = some (.int .i64 u.owner) ∧ z.cell? ⟨Gu, 1, none⟩ = some (.slice pu1 u.waits.length ku1) ∧ z.cell? ⟨Gu, 2, none⟩ = some (.slice pu2 u.queues.length ku2) ∧ z.cell? (pb.add q) = some (.int .i64 x.owner) ∧ Hid (Below Y15.heap.size Y15 z)) → Calls Try.prog 11 #[.agg #[.int .i64 u.owner, .slice pu1 u.waits.length ku1, .slice pu2 u.queues.length ku2]] z fun e w' => e = .returned (.bool true) ∧ Below z.heap.size z w') := fun z hz => by have h9 := HIO.out _ _ u z (EN15.out.stays (KV.out _ hz)).ow.at HXC.out.len; rw [HXC.out.ok] at h9; exact h9
  have hqy1 : (q : Int) < (y.queues.length : Int) := by omega
  have eyo : (y.owner == nx) = true := by rw [hyo]; simp
  have HNX := hide hyo
  clear HCC HCD hy hyq hql hdg h1 hnx hyo
  go_wp2_with fail
  rw [← HNX.out]
  go_region_held3 (fun z => z.cell? ⟨Gx, 0, none⟩ = some (.int .i64 x.owner) ∧ z.cell? ⟨Gx, 1, none⟩ = some (.slice px1 x.waits.length kx1) ∧ z.cell? ⟨Gx, 2, none⟩ = some (.slice (some pa) x.queues.length kx2) ∧ z.cell? ⟨Gy, 0, none⟩ = some (.int .i64 y.owner) ∧ z.cell? ⟨Gy, 1, none⟩ = some (.slice py1 y.waits.length ky1) ∧ z.cell? ⟨Gy, 2, none⟩ = some (.slice (some pb) y.queues.length ky2) ∧ z.cell? ⟨Gu, 0, none⟩ = some (.int .i64 u.owner) ∧ z.cell? ⟨Gu, 1, none⟩ = some (.slice pu1 u.waits.length ku1) ∧ z.cell? ⟨Gu, 2, none⟩ = some (.slice pu2 u.queues.length ku2) ∧ z.cell? (pb.add q) = some (.int .i64 x.owner) ∧ Hid (Below Y15.heap.size Y15 z)) (first | exact K0.out | exact KP.out _ _ (by assumption) hb7 | exact KP.out _ _ (by assumption) hb8)
    (first
      | (go_at_call 11; with_reducible refine (OY.out _ (by assumption)).mono ?_; rintro e w7 ⟨rfl, hb7⟩)
      | (go_at_call 11; with_reducible refine (OU.out _ (by assumption)).mono ?_; rintro e w8 ⟨rfl, hb8⟩))
  all_goals go_wp2
  all_goals go_ret
  all_goals exact ⟨rfl, BB_16.out.trans ((KV.out _ (by assumption)).mono BB_16.out.size)⟩
end Go.Proofs.Ytbikdpljhnhcaaa
