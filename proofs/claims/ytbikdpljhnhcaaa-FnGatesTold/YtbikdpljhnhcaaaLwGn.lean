/-
  Walks: the laws of drawn gates, over what the program's functions answer.
-/
import Derived.Test.YtbikdpljhnhcaaaDrwI
import Derived.Test.YtbikdpljhnhcaaaSamG
import Derived.Test.YtbikdpljhnhcaaaGatL
import Derived.Deep.RegionHeld3
namespace Go.Proofs.Ytbikdpljhnhcaaa
open Go.RowKit

/-- What Arrive of the program answers. -/
def ImpArrive : Prop := ∀ (v1 v2 : Value) (x : Gt) (p : Int) (w : World), GtAt w v1 v2 x → GtLen x → Calls Try.prog 9 #[.agg #[.int .i64 x.owner, v1, v2], .int .i64 p] w fun e w' => ∃ r1 r2, e = .returned (.tuple #[.agg #[.int .i64 (arriveE x p).1.owner, r1, r2], .bool (arriveE x p).2]) ∧ GtOwn w.heap.size w' r1 r2 (arriveE x p).1 ∧ Below w.heap.size w w'
/-- What Leave of the program answers. -/
def ImpLeave : Prop := ∀ (v1 v2 : Value) (x : Gt) (w : World), GtAt w v1 v2 x → GtLen x → Calls Try.prog 10 #[.agg #[.int .i64 x.owner, v1, v2]] w fun e w' => ∃ r1 r2, e = .returned (.tuple #[.agg #[.int .i64 (leaveE x).1.owner, r1, r2], .int .i64 (leaveE x).2]) ∧ GtOwn w.heap.size w' r1 r2 (leaveE x).1 ∧ Below w.heap.size w w'
/-- What DelayIn of the program answers. -/
def ImpDelayIn : Prop := ∀ (v1 v2 : Value) (x : Gt) (p : Int) (w : World), GtAt w v1 v2 x → GtLen x → Calls Try.prog 13 #[.agg #[.int .i64 x.owner, v1, v2], .int .i64 p] w fun e w' => ∃ r1 r2, e = .returned (.tuple #[.agg #[.int .i64 (delayE x p).1.owner, r1, r2], .int .i64 (delayE x p).2.1, .bool (delayE x p).2.2]) ∧ GtOwn w.heap.size w' r1 r2 (delayE x p).1 ∧ Below w.heap.size w w'
/-- What ContinueAt of the program answers. -/
def ImpContinueAt : Prop := ∀ (v1 v2 : Value) (x : Gt) (p : Int) (w : World), GtAt w v1 v2 x → GtLen x → Calls Try.prog 15 #[.agg #[.int .i64 x.owner, v1, v2], .int .i64 p] w fun e w' => ∃ r1 r2, e = .returned (.tuple #[.agg #[.int .i64 (contE x p).1.owner, r1, r2], .int .i64 (contE x p).2]) ∧ GtOwn w.heap.size w' r1 r2 (contE x p).1 ∧ Below w.heap.size w w'
/-- What GateOk of the program answers. -/
def ImpGateOk : Prop := ∀ (v1 v2 : Value) (x : Gt) (w : World), GtAt w v1 v2 x → GtLen x → Calls Try.prog 11 #[.agg #[.int .i64 x.owner, v1, v2]] w fun e w' => e = .returned (.bool (gateOkB x)) ∧ Below w.heap.size w w'
/-- What GateNew of the program answers. -/
def ImpGateNew : Prop := ∀ (p : Int) (w : World), Calls Try.prog 24 #[.int .i64 p] w fun e w' => ∃ r1 r2, e = .returned (.agg #[.int .i64 (gateNewE p).owner, r1, r2]) ∧ GtOwn w.heap.size w' r1 r2 (gateNewE p) ∧ Below w.heap.size w w'
/-- A gate in a box of the law's own. -/
structure GB (B : Nat) (z : World) (G : Nat) (x : Gt) (v1 v2 : Value) : Prop where
  bx : Box z G #[.int .i64 x.owner, v1, v2] 26
  ow : GtOwn B z v1 v2 x
theorem GB.stays {B : Nat} {z z' : World} {G : Nat} {x : Gt} {v1 v2 : Value} (h : GB B z G x v1 v2) (hb : Below z.heap.size z z') : GB B z' G x v1 v2 := ⟨h.bx.stays hb, h.ow.stays hb⟩
theorem GB.made {B : Nat} {z : World} {x : Gt} {v1 v2 : Value} (h : GtOwn B z v1 v2 x) : GB B (z.alloc (.cells #[.int .i64 x.owner, v1, v2] 26)) z.heap.size x v1 v2 := ⟨Box.made _ _ _, h.stays ((Below.refl _ _).alloc (Nat.le_refl _) _)⟩
theorem gate_cases {x : Gt} (h : Ok2 x) {p : Nat} (hp : p < 4) :
    (isIn x p = true ∧ arriveE x p = (x, false)) ∨ (isIn x p = false ∧ x.owner < 0 ∧ x.waits = [] ∧ arriveE x p = ({ x with owner := p }, true)) ∨ (isIn x p = false ∧ 0 ≤ x.owner ∧ arriveE x p = ({ x with waits := x.waits ++ [(p : Int)] }, false)) := by
  have hz : inZ 0 3 (p : Int) = true := inZ_yes.2 ⟨by omega, by omega⟩
  obtain ⟨h1, h2, h3, h4, h5, h6⟩ := (gate_parts x).1 h.ok
  unfold arriveE
  cases e : isIn x p with
  | true => exact .inl ⟨rfl, if_pos (.inr (.inr rfl))⟩
  | false =>
    have hc : ¬ (gateOkB x = false ∨ inZ 0 3 (p : Int) = false ∨ false = true) := by
      rw [h.ok, hz]
      simp
    rw [if_neg hc]
    by_cases ho : x.owner < 0
    · refine .inr (.inl ⟨rfl, ho, ?_, if_pos ho⟩)
      rcases h3 with h3 | h3
      · omega
      · exact h3
    · exact .inr (.inr ⟨rfl, by omega, if_neg ho⟩)
theorem leave_cases {x : Gt} (h : Ok2 x) :
    (x.owner < 0 ∧ x.waits = [] ∧ leaveE x = (x, -1)) ∨ (0 ≤ x.owner ∧ x.waits = [] ∧ leaveE x = ({ x with owner := -1, waits := [] }, -1)) ∨ (∃ c ws, 0 ≤ x.owner ∧ x.waits = c :: ws ∧ leaveE x = ({ x with owner := c, waits := ws }, c)) := by
  obtain ⟨h1, h2, h3, h4, h5, h6⟩ := (gate_parts x).1 h.ok
  unfold leaveE
  by_cases ho : x.owner < 0
  · refine .inl ⟨ho, ?_, if_pos (.inr ho)⟩
    rcases h3 with h3 | h3
    · omega
    · exact h3
  · have hc : ¬ (gateOkB x = false ∨ x.owner < 0) := by rw [h.ok]; simp; omega
    rw [if_neg hc]
    cases hw : x.waits with
    | nil => exact .inr (.inl ⟨by omega, rfl, by simp [nextG, hw]⟩)
    | cons c ws => exact .inr (.inr ⟨c, ws, by omega, rfl, by simp [nextG, hw]⟩)

set_option maxRecDepth 100000 in
set_option maxHeartbeats 8000000 in
theorem lawGates (IA : ImpArrive) (IL : ImpLeave) (IO : ImpGateOk) (w : World) (v : Value) (n : Nat) (H : CodeAt w w.heap.size v n) :
    Calls Try.prog 3 #[v] w fun e w' => e = .returned (.bool true) ∧ Below w.heap.size w w' := by
  have HIA := hide IA
  have HIL := hide IL
  have HIO := hide IO
  clear IA IL IO
  obtain ⟨ao, c, rfl⟩ := H.slice
  have BG := fun z => hide (big_any z ao n c)
  by_cases hn : n ≤ 1048576
  case neg =>
    have eb : decide (1048576 < n) = true := decide_eq_true (by omega)
    simp only [eb] at BG
    clear eb
    go_enter Try.func3, Try.ntmps3
    go_wp2_with (go_at_call 6; refine (unhide (BG _)).mono ?_; rintro e z ⟨rfl, rfl⟩)
    go_ret
    exact ⟨rfl, Below.refl _ _⟩
  have eb : decide (1048576 < n) = false := decide_eq_false (by omega)
  simp only [eb] at BG
  clear eb
  have HC : Hid (∀ z, Below w.heap.size w z → CodeAt z w.heap.size (.slice ao n c) n) := fun z h => H.below h
  clear H
  go_enter Try.func3, Try.ntmps3
  go_wp2_with (first | (go_at_call 6; refine (unhide (BG _)).mono ?_; rintro e z ⟨rfl, rfl⟩) | fail)
  refine (drawGate w w.heap.size _ n hn (HC.out _ (Below.refl _ _)) (Nat.le_refl _)).mono ?_
  rintro e z1 ⟨v1, v2, x, rfl, ho, hx, hb⟩
  have HX := hide hx
  clear hx
  obtain ⟨px1, kx1, rfl⟩ := form_own ho.o1
  obtain ⟨px2, kx2, rfl⟩ := form_own ho.o2
  have B0 := hide hb
  clear hb
  have hba : Below z1.heap.size z1 (z1.alloc (.cells #[.int .i64 x.owner, .slice px1 x.waits.length kx1, .slice px2 x.queues.length kx2] 26)) := (Below.refl _ _).alloc (Nat.le_refl _) _
  have EN1 := hide (GB.made (ho.lo (b := w.heap.size) (by have := B0.out.size; omega)))
  clear ho
  have BB_2 := hide (B0.out.trans (hba.mono B0.out.size))
  clear B0
  clear hba
  obtain ⟨Y1, hY1⟩ : ∃ Z, z1.alloc (.cells #[.int .i64 x.owner, .slice px1 x.waits.length kx1, .slice px2 x.queues.length kx2] 26) = Z := ⟨_, rfl⟩
  obtain ⟨Gx, hGx⟩ : ∃ G, z1.heap.size = G := ⟨_, rfl⟩
  have HY1 := hide hY1
  have HGx := hide hGx
  rw [hGx] at EN1
  rw [hY1] at EN1 BB_2
  clear hY1 hGx
  go_wp2_with fail
  rw [HY1.out, HGx.out]
  refine (places_any _ w.heap.size _ n hn (HC.out _ BB_2.out) BB_2.out.size).mono ?_
  rintro e z2 ⟨pv, xs, rfl, hl12, hx12, ho2, hb2⟩
  obtain ⟨gp, cap, rfl, hgp, hpc⟩ := row12 hl12 ho2
  have Ex_3 := hide (EN1.out.stays hb2)
  clear EN1
  have BB_3 := hide (BB_2.out.trans (hb2.mono BB_2.out.size))
  clear BB_2
  have c0 := hpc 0 (by omega)
  clear hb2 ho2 hpc hx12 hgp
  obtain ⟨q, hq⟩ : ∃ q, xs[0] = q := ⟨_, rfl⟩
  rw [hq] at c0
  clear hq
  obtain ⟨p, hp⟩ : ∃ p, q % 4 = p := ⟨_, rfl⟩
  have hp4 : p < 4 := by rw [← hp]; exact Nat.mod_lt _ (by decide)
  have hrem : (q : Int) % 4 = (p : Int) := by rw [← hp]; exact (Int.natCast_emod q 4).symm
  clear hp hl12
  have c_x_0 := (Lib.cell_of_heap Ex_3.out.bx 0).trans rfl
  have c_x_1 := (Lib.cell_of_heap Ex_3.out.bx 1).trans rfl
  have c_x_2 := (Lib.cell_of_heap Ex_3.out.bx 2).trans rfl
  go_wp2_with fail
  clear c_x_0 c_x_1 c_x_2
  refine (HIA.out _ _ x (p : Int) z2 Ex_3.out.ow.at HX.out.len).mono ?_
  rintro e z3 ⟨v1, v2, rfl, ho, hb⟩
  have HCA := hide (gate_cases HX.out hp4)
  have HXA := hide (HX.out.arrive (p : Int))
  obtain ⟨y, hy⟩ : ∃ y, (arriveE x (p : Int)).1 = y := ⟨_, rfl⟩
  obtain ⟨ok, hok⟩ : ∃ b, (arriveE x (p : Int)).2 = b := ⟨_, rfl⟩
  have EA : Hid (arriveE x (p : Int) = (y, ok)) := by rw [← hy, ← hok]; rfl
  rw [hy] at ho HXA ⊢
  rw [hok]
  rw [EA.out] at HCA
  clear hy hok
  obtain ⟨py1, ky1, rfl⟩ := form_own ho.o1
  obtain ⟨py2, ky2, rfl⟩ := form_own ho.o2
  have hlo := BB_3.out.size
  have ho' := ho.lo (b := w.heap.size) (by omega)
  clear ho hlo
  have Ex_4 := hide (Ex_3.out.stays hb)
  clear Ex_3
  have BB_4 := hide (BB_3.out.trans (hb.mono BB_3.out.size))
  clear BB_3
  clear hb c0
  have hba : Below z3.heap.size z3 (z3.alloc (.cells #[.int .i64 y.owner, .slice py1 y.waits.length ky1, .slice py2 y.queues.length ky2] 26)) := (Below.refl _ _).alloc (Nat.le_refl _) _
  have EN5 := hide (GB.made (ho'.lo (b := w.heap.size) (by have := BB_4.out.size; omega)))
  clear ho'
  have Ex_6 := hide (Ex_4.out.stays hba)
  clear Ex_4
  have BB_6 := hide (BB_4.out.trans (hba.mono BB_4.out.size))
  clear BB_4
  clear hba
  obtain ⟨Y5, hY5⟩ : ∃ Z, z3.alloc (.cells #[.int .i64 y.owner, .slice py1 y.waits.length ky1, .slice py2 y.queues.length ky2] 26) = Z := ⟨_, rfl⟩
  obtain ⟨Gy, hGy⟩ : ∃ G, z3.heap.size = G := ⟨_, rfl⟩
  have HY5 := hide hY5
  have HGy := hide hGy
  rw [hGy] at EN5
  rw [hY5] at Ex_6 EN5 BB_6
  clear hY5 hGy
  have c_x_0 := (Lib.cell_of_heap Ex_6.out.bx 0).trans rfl
  have c_x_1 := (Lib.cell_of_heap Ex_6.out.bx 1).trans rfl
  have c_x_2 := (Lib.cell_of_heap Ex_6.out.bx 2).trans rfl
  have c_y_0 := (Lib.cell_of_heap EN5.out.bx 0).trans rfl
  have c_y_1 := (Lib.cell_of_heap EN5.out.bx 1).trans rfl
  have c_y_2 := (Lib.cell_of_heap EN5.out.bx 2).trans rfl
  go_wp2_with fail
  rw [HY5.out, HGy.out]
  clear c_x_0 c_x_1 c_x_2
  clear c_y_0 c_y_1 c_y_2
  refine (HIL.out _ _ y _ EN5.out.ow.at HXA.out.len).mono ?_
  rintro e z4 ⟨v1, v2, rfl, ho, hb⟩
  have HCL := hide (leave_cases HXA.out)
  have HXL := hide HXA.out.leave
  obtain ⟨u, hu⟩ : ∃ u, (leaveE y).1 = u := ⟨_, rfl⟩
  obtain ⟨nx, hnx⟩ : ∃ b, (leaveE y).2 = b := ⟨_, rfl⟩
  have EL : Hid (leaveE y = (u, nx)) := by rw [← hu, ← hnx]; rfl
  rw [hu] at ho HXL ⊢
  rw [hnx]
  rw [EL.out] at HCL
  clear hu hnx
  obtain ⟨pu1, ku1, rfl⟩ := form_own ho.o1
  obtain ⟨pu2, ku2, rfl⟩ := form_own ho.o2
  have hlo := BB_6.out.size
  have ho' := ho.lo (b := w.heap.size) (by omega)
  clear ho hlo
  have Ex_7 := hide (Ex_6.out.stays hb)
  clear Ex_6
  have Ey_7 := hide (EN5.out.stays hb)
  clear EN5
  have BB_7 := hide (BB_6.out.trans (hb.mono BB_6.out.size))
  clear BB_6
  clear hb
  have hba : Below z4.heap.size z4 (z4.alloc (.cells #[.int .i64 u.owner, .slice pu1 u.waits.length ku1, .slice pu2 u.queues.length ku2] 26)) := (Below.refl _ _).alloc (Nat.le_refl _) _
  have EN8 := hide (GB.made (ho'.lo (b := w.heap.size) (by have := BB_7.out.size; omega)))
  clear ho'
  have Ex_9 := hide (Ex_7.out.stays hba)
  clear Ex_7
  have Ey_9 := hide (Ey_7.out.stays hba)
  clear Ey_7
  have BB_9 := hide (BB_7.out.trans (hba.mono BB_7.out.size))
  clear BB_7
  clear hba
  obtain ⟨Y8, hY8⟩ : ∃ Z, z4.alloc (.cells #[.int .i64 u.owner, .slice pu1 u.waits.length ku1, .slice pu2 u.queues.length ku2] 26) = Z := ⟨_, rfl⟩
  obtain ⟨Gu, hGu⟩ : ∃ G, z4.heap.size = G := ⟨_, rfl⟩
  have HY8 := hide hY8
  have HGu := hide hGu
  rw [hGu] at EN8
  rw [hY8] at Ex_9 Ey_9 EN8 BB_9
  clear hY8 hGu
  go_upto_region 7 with fail
  rw [HY8.out, HGu.out]
  have c_x_0 := (Lib.cell_of_heap Ex_9.out.bx 0).trans rfl
  have c_x_1 := (Lib.cell_of_heap Ex_9.out.bx 1).trans rfl
  have c_x_2 := (Lib.cell_of_heap Ex_9.out.bx 2).trans rfl
  have c_y_0 := (Lib.cell_of_heap Ey_9.out.bx 0).trans rfl
  have c_y_1 := (Lib.cell_of_heap Ey_9.out.bx 1).trans rfl
  have c_y_2 := (Lib.cell_of_heap Ey_9.out.bx 2).trans rfl
  have c_u_0 := (Lib.cell_of_heap EN8.out.bx 0).trans rfl
  have c_u_1 := (Lib.cell_of_heap EN8.out.bx 1).trans rfl
  have c_u_2 := (Lib.cell_of_heap EN8.out.bx 2).trans rfl
  go_wp2_with fail
  clear c_x_0 c_x_1 c_x_2
  clear c_y_0 c_y_1 c_y_2
  clear c_u_0 c_u_1 c_u_2
  refine (HIO.out _ _ x _ Ex_9.out.ow.at HX.out.len).mono ?_
  rintro e zx ⟨rfl, hb⟩
  rw [HX.out.ok]
  have Ex_10 := hide (Ex_9.out.stays hb)
  clear Ex_9
  have Ey_10 := hide (Ey_9.out.stays hb)
  clear Ey_9
  have Eu_10 := hide (EN8.out.stays hb)
  clear EN8
  have BB_10 := hide (BB_9.out.trans (hb.mono BB_9.out.size))
  clear BB_9
  clear hb
  have c_x_0 := (Lib.cell_of_heap Ex_10.out.bx 0).trans rfl
  have c_x_1 := (Lib.cell_of_heap Ex_10.out.bx 1).trans rfl
  have c_x_2 := (Lib.cell_of_heap Ex_10.out.bx 2).trans rfl
  have c_y_0 := (Lib.cell_of_heap Ey_10.out.bx 0).trans rfl
  have c_y_1 := (Lib.cell_of_heap Ey_10.out.bx 1).trans rfl
  have c_y_2 := (Lib.cell_of_heap Ey_10.out.bx 2).trans rfl
  have c_u_0 := (Lib.cell_of_heap Eu_10.out.bx 0).trans rfl
  have c_u_1 := (Lib.cell_of_heap Eu_10.out.bx 1).trans rfl
  have c_u_2 := (Lib.cell_of_heap Eu_10.out.bx 2).trans rfl
  go_wp2_with fail
  clear c_x_0 c_x_1 c_x_2
  clear c_y_0 c_y_1 c_y_2
  clear c_u_0 c_u_1 c_u_2
  refine (HIO.out _ _ y _ Ey_10.out.ow.at HXA.out.len).mono ?_
  rintro e zy ⟨rfl, hb⟩
  rw [HXA.out.ok]
  have Ex_11 := hide (Ex_10.out.stays hb)
  clear Ex_10
  have Ey_11 := hide (Ey_10.out.stays hb)
  clear Ey_10
  have Eu_11 := hide (Eu_10.out.stays hb)
  clear Eu_10
  have BB_11 := hide (BB_10.out.trans (hb.mono BB_10.out.size))
  clear BB_10
  clear hb
  have c_x_0 := (Lib.cell_of_heap Ex_11.out.bx 0).trans rfl
  have c_x_1 := (Lib.cell_of_heap Ex_11.out.bx 1).trans rfl
  have c_x_2 := (Lib.cell_of_heap Ex_11.out.bx 2).trans rfl
  have c_y_0 := (Lib.cell_of_heap Ey_11.out.bx 0).trans rfl
  have c_y_1 := (Lib.cell_of_heap Ey_11.out.bx 1).trans rfl
  have c_y_2 := (Lib.cell_of_heap Ey_11.out.bx 2).trans rfl
  have c_u_0 := (Lib.cell_of_heap Eu_11.out.bx 0).trans rfl
  have c_u_1 := (Lib.cell_of_heap Eu_11.out.bx 1).trans rfl
  have c_u_2 := (Lib.cell_of_heap Eu_11.out.bx 2).trans rfl
  go_wp2_with fail
  clear c_x_0 c_x_1 c_x_2
  clear c_y_0 c_y_1 c_y_2
  clear c_u_0 c_u_1 c_u_2
  refine (HIO.out _ _ u _ Eu_11.out.ow.at HXL.out.len).mono ?_
  rintro e zu ⟨rfl, hb⟩
  rw [HXL.out.ok]
  have Ex_12 := hide (Ex_11.out.stays hb)
  clear Ex_11
  have Ey_12 := hide (Ey_11.out.stays hb)
  clear Ey_11
  have Eu_12 := hide (Eu_11.out.stays hb)
  clear Eu_11
  have BB_12 := hide (BB_11.out.trans (hb.mono BB_11.out.size))
  clear BB_11
  clear hb
  have HIN := hide (show isIn x (p : Int) = (decide (x.owner = (p : Int)) || decide ((p : Int) ∈ x.waits) || decide ((p : Int) ∈ x.queues)) from rfl)
  have CI1 := hide (inL_any (.slice px1 x.waits.length kx1) x.waits (p : Int) zu Ex_12.out.ow.at.a1 HX.out.len.l1)
  have CI2 := hide (inL_any (.slice px2 x.queues.length kx2) x.queues (p : Int) zu Ex_12.out.ow.at.a2 HX.out.len.l2)
  obtain ⟨d0, hd0⟩ : ∃ b, decide (x.owner = (p : Int)) = b := ⟨_, rfl⟩
  obtain ⟨d1, hd1⟩ : ∃ b, decide ((p : Int) ∈ x.waits) = b := ⟨_, rfl⟩
  obtain ⟨d2, hd2⟩ : ∃ b, decide ((p : Int) ∈ x.queues) = b := ⟨_, rfl⟩
  rw [hd0, hd1, hd2] at HIN
  rw [hd1] at CI1
  rw [hd2] at CI2
  clear hd1 hd2
  have e0 : (x.owner == (p : Int)) = d0 := by rw [← hd0]; rfl
  have e0' : (x.owner = (p : Int)) = (d0 = true) := by rw [← hd0]; simp
  clear hd0
  have c_x_0 := (Lib.cell_of_heap Ex_12.out.bx 0).trans rfl
  have c_x_1 := (Lib.cell_of_heap Ex_12.out.bx 1).trans rfl
  have c_x_2 := (Lib.cell_of_heap Ex_12.out.bx 2).trans rfl
  have c_y_0 := (Lib.cell_of_heap Ey_12.out.bx 0).trans rfl
  have c_y_1 := (Lib.cell_of_heap Ey_12.out.bx 1).trans rfl
  have c_y_2 := (Lib.cell_of_heap Ey_12.out.bx 2).trans rfl
  have c_u_0 := (Lib.cell_of_heap Eu_12.out.bx 0).trans rfl
  have c_u_1 := (Lib.cell_of_heap Eu_12.out.bx 1).trans rfl
  have c_u_2 := (Lib.cell_of_heap Eu_12.out.bx 2).trans rfl
  have HEX := hide Ey_12.out.ow.at
  have HBB := BB_12
  clear Ex_12 Ey_12 Eu_12
  obtain ⟨th, hth⟩ : ∃ b, isIn x (p : Int) = b := ⟨_, rfl⟩
  rw [hth] at HCA HIN
  clear hth
  have HTH : Hid (th = (d0 || d1 || d2)) := HIN.out
  clear HIN
  go_upto_region 9 with fail
  go_cut [9] from 10 (fun tv z => tv = .bool th ∧ z = zu)
  case first =>
    cases d0 with
    | true =>
      have hth : th = true := HTH.out
      subst hth
      go_wp2_with (first | (go_at_call 12; first | (refine (unhide CI1).mono ?_; rintro e z9 ⟨rfl, rfl⟩) | (refine (unhide CI2).mono ?_; rintro e z9 ⟨rfl, rfl⟩)))
      go_meet
      exact ⟨rfl, rfl⟩
    | false =>
      cases d1 with
      | true =>
        have hth : th = true := HTH.out
        subst hth
        go_wp2_with (go_at_call 12; refine (unhide CI1).mono ?_; rintro e z9 ⟨rfl, rfl⟩)
        go_meet
        exact ⟨rfl, rfl⟩
      | false =>
        have hth : th = d2 := by have := HTH.out; simpa using this
        subst hth
        go_wp2_with (go_at_call 12; first | (refine (unhide CI1).mono ?_; rintro e z9 ⟨rfl, rfl⟩; clear CI1) | (refine (unhide CI2).mono ?_; rintro e z9 ⟨rfl, rfl⟩))
        go_meet
        exact ⟨rfl, rfl⟩
  case rest =>
    obtain ⟨rfl, rfl⟩ := hcut
    clear CI1 CI2 HTH e0 e0'
    have hs4 := gateOk_small HXA.out.ok
    have hsx := gateOk_small HX.out.ok
    have HROW : Hid (∀ (i : Nat) (hi : i < y.waits.length), ∃ a, py1 = some a ∧ wc.cell? (a.add i) = some (.int .i64 y.waits[i])) := fun i hi => by
      obtain ⟨ao1, c1, e1, hc1⟩ := HEX.out.a1
      injection e1 with e2 e3 e4
      subst e2
      obtain ⟨a, ha, _, hx⟩ := hc1 i hi
      exact ⟨a, ha, hx⟩
    clear HEX
    rcases HCA.out with ⟨h1, h2⟩ | ⟨h1, ho, hw, h2⟩ | ⟨h1, ho, h2⟩
    · injection h2 with hy hok
      subst h1 hok
      clear hy HCA
      by_cases ho : x.owner < 0
      · skip
        rcases HCL.out with ⟨ho2, hw2, h5⟩ | ⟨ho2, hw2, h5⟩ | ⟨c, ws, ho2, hw2, h5⟩
        · injection h5 with hu hnx
          subst hnx
          have h6 : ¬ 0 ≤ y.owner := by omega
          have hyl : y.waits.length = 0 := by rw [hw2]; rfl
          have HYL := hide hyl
          clear hw2 hu HCL HROW
          rw [hyl] at c_y_1
          clear hyl
          go_wp2
          go_ret
          exact ⟨rfl, HBB.out⟩
        · injection h5 with hu hnx
          subst hnx
          have h6 : 0 ≤ y.owner := ho2
          have hyl : y.waits.length = 0 := by rw [hw2]; rfl
          have HYL := hide hyl
          clear hw2 hu HCL HROW ho2
          rw [hyl] at c_y_1
          clear hyl
          go_wp2
          go_ret
          exact ⟨rfl, HBB.out⟩
        · injection h5 with hu hnx
          subst hnx
          have h6 : 0 ≤ y.owner := ho2
          have hyl : y.waits.length = ws.length + 1 := by rw [hw2]; rfl
          have hul : u.waits.length = ws.length := by rw [hu]; done
          have huo : u.owner = nx := by rw [hu]; done
          obtain ⟨a0, rfl, ha0⟩ := HROW.out 0 (by rw [hyl]; omega)
          have ha0' : wc.cell? (a0.add 0) = some (.int .i64 nx) := by rw [ha0]; simp [hw2]
          have ha0z : wc.cell? a0 = some (.int .i64 nx) := by have := ha0'; rw [Addr.add_zero'] at this; exact this
          clear ha0 HCL hw2 hu HROW ho2
          rw [hyl] at c_y_1
          rw [hul] at c_u_1
          rw [huo] at c_u_0
          obtain ⟨lw, hlw⟩ : ∃ l, ws.length = l := ⟨_, rfl⟩
          rw [hlw] at c_y_1 c_u_1 hyl
          clear hlw hul huo
          have hwr : IntKind.i64.wrap ((lw : Int) + 1 - 1) = (lw : Int) := by rw [IntWalk.i64_in _ ⟨by omega, by omega⟩]; omega
          go_wp2
          go_ret
          exact ⟨rfl, HBB.out⟩
      · skip
        rcases HCL.out with ⟨ho2, hw2, h5⟩ | ⟨ho2, hw2, h5⟩ | ⟨c, ws, ho2, hw2, h5⟩
        · injection h5 with hu hnx
          subst hnx
          have h6 : ¬ 0 ≤ y.owner := by omega
          have hyl : y.waits.length = 0 := by rw [hw2]; rfl
          have HYL := hide hyl
          clear hw2 hu HCL HROW
          rw [hyl] at c_y_1
          clear hyl
          go_wp2
          go_ret
          exact ⟨rfl, HBB.out⟩
        · injection h5 with hu hnx
          subst hnx
          have h6 : 0 ≤ y.owner := ho2
          have hyl : y.waits.length = 0 := by rw [hw2]; rfl
          have HYL := hide hyl
          clear hw2 hu HCL HROW ho2
          rw [hyl] at c_y_1
          clear hyl
          go_wp2
          go_ret
          exact ⟨rfl, HBB.out⟩
        · injection h5 with hu hnx
          subst hnx
          have h6 : 0 ≤ y.owner := ho2
          have hyl : y.waits.length = ws.length + 1 := by rw [hw2]; rfl
          have hul : u.waits.length = ws.length := by rw [hu]; done
          have huo : u.owner = nx := by rw [hu]; done
          obtain ⟨a0, rfl, ha0⟩ := HROW.out 0 (by rw [hyl]; omega)
          have ha0' : wc.cell? (a0.add 0) = some (.int .i64 nx) := by rw [ha0]; simp [hw2]
          have ha0z : wc.cell? a0 = some (.int .i64 nx) := by have := ha0'; rw [Addr.add_zero'] at this; exact this
          clear ha0 HCL hw2 hu HROW ho2
          rw [hyl] at c_y_1
          rw [hul] at c_u_1
          rw [huo] at c_u_0
          obtain ⟨lw, hlw⟩ : ∃ l, ws.length = l := ⟨_, rfl⟩
          rw [hlw] at c_y_1 c_u_1 hyl
          clear hlw hul huo
          have hwr : IntKind.i64.wrap ((lw : Int) + 1 - 1) = (lw : Int) := by rw [IntWalk.i64_in _ ⟨by omega, by omega⟩]; omega
          go_wp2
          go_ret
          exact ⟨rfl, HBB.out⟩
    · injection h2 with hy hok
      subst h1 hok
      clear hy HCA hw
      rcases HCL.out with ⟨ho2, hw2, h5⟩ | ⟨ho2, hw2, h5⟩ | ⟨c, ws, ho2, hw2, h5⟩
      · injection h5 with hu hnx
        subst hnx
        have h6 : ¬ 0 ≤ y.owner := by omega
        have hyl : y.waits.length = 0 := by rw [hw2]; rfl
        have HYL := hide hyl
        clear hw2 hu HCL HROW
        rw [hyl] at c_y_1
        clear hyl
        go_wp2
        go_ret
        exact ⟨rfl, HBB.out⟩
      · injection h5 with hu hnx
        subst hnx
        have h6 : 0 ≤ y.owner := ho2
        have hyl : y.waits.length = 0 := by rw [hw2]; rfl
        have HYL := hide hyl
        clear hw2 hu HCL HROW ho2
        rw [hyl] at c_y_1
        clear hyl
        go_wp2
        go_ret
        exact ⟨rfl, HBB.out⟩
      · injection h5 with hu hnx
        subst hnx
        have h6 : 0 ≤ y.owner := ho2
        have hyl : y.waits.length = ws.length + 1 := by rw [hw2]; rfl
        have hul : u.waits.length = ws.length := by rw [hu]; done
        have huo : u.owner = nx := by rw [hu]; done
        obtain ⟨a0, rfl, ha0⟩ := HROW.out 0 (by rw [hyl]; omega)
        have ha0' : wc.cell? (a0.add 0) = some (.int .i64 nx) := by rw [ha0]; simp [hw2]
        have ha0z : wc.cell? a0 = some (.int .i64 nx) := by have := ha0'; rw [Addr.add_zero'] at this; exact this
        clear ha0 HCL hw2 hu HROW ho2
        rw [hyl] at c_y_1
        rw [hul] at c_u_1
        rw [huo] at c_u_0
        obtain ⟨lw, hlw⟩ : ∃ l, ws.length = l := ⟨_, rfl⟩
        rw [hlw] at c_y_1 c_u_1 hyl
        clear hlw hul huo
        have hwr : IntKind.i64.wrap ((lw : Int) + 1 - 1) = (lw : Int) := by rw [IntWalk.i64_in _ ⟨by omega, by omega⟩]; omega
        go_wp2
        go_ret
        exact ⟨rfl, HBB.out⟩
    · injection h2 with hy hok
      subst h1 hok
      have ho3 : ¬ x.owner < 0 := by omega
      have hyx : y.waits = x.waits ++ [(p : Int)] := by rw [hy]
      have hyl3 : y.waits.length = x.waits.length + 1 := by rw [hyx, List.length_append]; rfl
      obtain ⟨a1, hpa, ha1⟩ := HROW.out x.waits.length (by rw [hyl3]; omega)
      have ha1' : wc.cell? (a1.add x.waits.length) = some (.int .i64 (p : Int)) := by rw [ha1]; simp [hyx]
      clear hy HCA ha1 ho hyx
      rcases HCL.out with ⟨ho2, hw2, h5⟩ | ⟨ho2, hw2, h5⟩ | ⟨c, ws, ho2, hw2, h5⟩
      · rw [hw2] at hyl3; simp at hyl3
      · rw [hw2] at hyl3; simp at hyl3
      · injection h5 with hu hnx
        subst hnx
        have h6 : 0 ≤ y.owner := ho2
        have hyl : y.waits.length = ws.length + 1 := by rw [hw2]; rfl
        have hxl : x.waits.length = ws.length := by omega
        have hul : u.waits.length = ws.length := by rw [hu]; done
        have huo : u.owner = nx := by rw [hu]; done
        obtain ⟨a0, ha, ha0⟩ := HROW.out 0 (by rw [hyl]; omega)
        rw [hpa] at ha
        injection ha with ha
        subst ha
        have ha0' : wc.cell? (a1.add 0) = some (.int .i64 nx) := by rw [ha0]; simp [hw2]
        have ha0z : wc.cell? a1 = some (.int .i64 nx) := by have := ha0'; rw [Addr.add_zero'] at this; exact this
        clear ha0 HCL hw2 hu HROW ho2
        subst hpa
        rw [hyl] at c_y_1
        rw [hul] at c_u_1
        rw [huo] at c_u_0
        rw [hxl] at c_x_1 ha1' hsx
        obtain ⟨lw, hlw⟩ : ∃ l, ws.length = l := ⟨_, rfl⟩
        rw [hlw] at c_y_1 c_u_1 c_x_1 ha1' hsx
        clear hlw hul huo hyl hxl hyl3 hs4
        have hwr : IntKind.i64.wrap ((lw : Int) + 1 - 1) = (lw : Int) := by rw [IntWalk.i64_in _ ⟨by omega, by omega⟩]; omega
        have hwp : IntKind.i64.wrap ((lw : Int) + 1) = (lw : Int) + 1 := IntWalk.i64_in _ ⟨by omega, by omega⟩
        have hlw0 : (0 : Int) ≤ (lw : Int) := by omega
        have hlw1 : (lw : Int) < (lw : Int) + 1 := by omega
        go_wp2
        go_ret
        exact ⟨rfl, HBB.out⟩
end Go.Proofs.Ytbikdpljhnhcaaa
