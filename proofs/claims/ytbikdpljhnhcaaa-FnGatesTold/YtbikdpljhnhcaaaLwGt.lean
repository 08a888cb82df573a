/-
  Walks: the law of what is told of gates, over what the program answers.
-/
import Derived.Test.YtbikdpljhnhcaaaLwGn
namespace Go.Proofs.Ytbikdpljhnhcaaa
open Go.RowKit

theorem SmG.sz {x : Gt} (h : SmG x) : szGt x ≤ 1048576 := by
  unfold szGt
  have := h.w
  have := h.q
  omega
theorem arrive_sm {x : Gt} (h : SmG x) (p : Int) : GtLen (arriveE x p).1 := arriveE_len h.sz p
theorem leave_sm {x : Gt} (h : SmG x) : GtLen (leaveE x).1 := leaveE_len h.sz
theorem delay_sm {x : Gt} (h : SmG x) (q : Int) : GtLen (delayE x q).1 := delayE_len h.sz q
theorem cont_sm {x : Gt} (h : SmG x) (q : Int) : GtLen (contE x q).1 := contE_len h.sz q

set_option maxRecDepth 100000 in
set_option maxHeartbeats 8000000 in
theorem lawGatesTold (IA : ImpArrive) (IL : ImpLeave) (ID : ImpDelayIn) (IC : ImpContinueAt) (IO : ImpGateOk) (IN : ImpGateNew) (w : World) (v : Value) (n : Nat) (H : CodeAt w w.heap.size v n) :
    Calls Try.prog 5 #[v] w fun e w' => e = .returned (.bool true) ∧ Below w.heap.size w w' := by
  have HIA := hide IA
  have HIL := hide IL
  have HID := hide ID
  have HIC := hide IC
  have HIO := hide IO
  have HIN := hide IN
  clear IA IL ID IC IO IN
  obtain ⟨ao, c, rfl⟩ := H.slice
  have BG := fun z => hide (big_any z ao n c)
  by_cases hn : n ≤ 1048576
  case neg =>
    have eb : decide (1048576 < n) = true := decide_eq_true (by omega)
    simp only [eb] at BG
    clear eb
    go_enter Try.func5, Try.ntmps5
    go_wp2_with (go_at_call 6; refine (unhide (BG _)).mono ?_; rintro e z ⟨rfl, rfl⟩)
    go_ret
    exact ⟨rfl, Below.refl _ _⟩
  have eb : decide (1048576 < n) = false := decide_eq_false (by omega)
  simp only [eb] at BG
  clear eb
  have HC : Hid (∀ z, Below w.heap.size w z → CodeAt z w.heap.size (.slice ao n c) n) := fun z h => H.below h
  clear H
  go_enter Try.func5, Try.ntmps5
  go_wp2_with (first | (go_at_call 6; refine (unhide (BG _)).mono ?_; rintro e z ⟨rfl, rfl⟩) | fail)
  refine (drawArrive w w.heap.size _ n hn (HC.out _ (Below.refl _ _)) (Nat.le_refl _)).mono ?_
  rintro e zdxg ⟨v1, v2, xg, pi, rfl, ho, hx, hb⟩
  have HXxg := hide hx
  clear hx
  obtain ⟨pxg1, kxg1, rfl⟩ := form_own ho.o1
  obtain ⟨pxg2, kxg2, rfl⟩ := form_own ho.o2
  have B0 := hide hb
  clear hb
  have hba : Below zdxg.heap.size zdxg (zdxg.alloc (.cells #[.int .i64 xg.owner, .slice pxg1 xg.waits.length kxg1, .slice pxg2 xg.queues.length kxg2] 26)) := (Below.refl _ _).alloc (Nat.le_refl _) _
  have EN1 := hide (GB.made (ho.lo (b := w.heap.size) (by have := B0.out.size; omega)))
  clear ho
  have BB_2 := hide (B0.out.trans (hba.mono B0.out.size))
  clear B0
  clear hba
  obtain ⟨Y1, hY1⟩ : ∃ Z, zdxg.alloc (.cells #[.int .i64 xg.owner, .slice pxg1 xg.waits.length kxg1, .slice pxg2 xg.queues.length kxg2] 26) = Z := ⟨_, rfl⟩
  obtain ⟨Gxg, hGxg⟩ : ∃ G, zdxg.heap.size = G := ⟨_, rfl⟩
  have HY1 := hide hY1
  have HGxg := hide hGxg
  rw [hGxg] at EN1
  rw [hY1] at EN1 BB_2
  clear hY1 hGxg
  obtain ⟨ok, hok⟩ : ∃ b, (arriveE xg pi).2 = b := ⟨_, rfl⟩
  go_upto_region 4 with fail
  rw [HY1.out, HGxg.out]
  have c_xg_0 := (Lib.cell_of_heap EN1.out.bx 0).trans rfl
  have c_xg_1 := (Lib.cell_of_heap EN1.out.bx 1).trans rfl
  have c_xg_2 := (Lib.cell_of_heap EN1.out.bx 2).trans rfl
  go_wp2_with fail
  clear c_xg_0 c_xg_1 c_xg_2
  refine (HIA.out _ _ xg pi _ EN1.out.ow.at HXxg.out.len).mono ?_
  rintro e zcxa ⟨v1, v2, rfl, ho, hb⟩
  obtain ⟨xa, hxa⟩ : ∃ y, (arriveE xg pi).1 = y := ⟨_, rfl⟩
  have HLxa : Hid (GtLen xa) := by rw [← hxa]; exact arrive_sm HXxg.out _
  rw [hxa] at ho ⊢
  try rw [hok]
  obtain ⟨pxa1, kxa1, rfl⟩ := form_own ho.o1
  obtain ⟨pxa2, kxa2, rfl⟩ := form_own ho.o2
  have hlo := BB_2.out.size
  have ho' := ho.lo (b := w.heap.size) (by omega)
  clear ho hlo
  have Exg_3 := hide (EN1.out.stays hb)
  clear EN1
  have BB_3 := hide (BB_2.out.trans (hb.mono BB_2.out.size))
  clear BB_2
  clear hb
  have hba : Below zcxa.heap.size zcxa (zcxa.alloc (.cells #[.int .i64 xa.owner, .slice pxa1 xa.waits.length kxa1, .slice pxa2 xa.queues.length kxa2] 26)) := (Below.refl _ _).alloc (Nat.le_refl _) _
  have EN4 := hide (GB.made (ho'.lo (b := w.heap.size) (by have := BB_3.out.size; omega)))
  clear ho'
  have Exg_5 := hide (Exg_3.out.stays hba)
  clear Exg_3
  have BB_5 := hide (BB_3.out.trans (hba.mono BB_3.out.size))
  clear BB_3
  clear hba
  obtain ⟨Y4, hY4⟩ : ∃ Z, zcxa.alloc (.cells #[.int .i64 xa.owner, .slice pxa1 xa.waits.length kxa1, .slice pxa2 xa.queues.length kxa2] 26) = Z := ⟨_, rfl⟩
  obtain ⟨Gxa, hGxa⟩ : ∃ G, zcxa.heap.size = G := ⟨_, rfl⟩
  have HY4 := hide hY4
  have HGxa := hide hGxa
  rw [hGxa] at EN4
  rw [hY4] at Exg_5 EN4 BB_5
  clear hY4 hGxa
  go_upto_region 5 with fail
  rw [HY4.out, HGxa.out]
  have c_xg_0 := (Lib.cell_of_heap Exg_5.out.bx 0).trans rfl
  have c_xg_1 := (Lib.cell_of_heap Exg_5.out.bx 1).trans rfl
  have c_xg_2 := (Lib.cell_of_heap Exg_5.out.bx 2).trans rfl
  go_wp2_with fail
  clear c_xg_0 c_xg_1 c_xg_2
  refine (specArrive_any _ _ xg pi _ Exg_5.out.ow.at HXxg.out.len).mono ?_
  rintro e zcxb ⟨v1, v2, rfl, ho, hb⟩
  obtain ⟨xb, hxb⟩ : ∃ y, (arriveE xg pi).1 = y := ⟨_, rfl⟩
  have HLxb : Hid (GtLen xb) := by rw [← hxb]; exact arrive_sm HXxg.out _
  rw [hxb] at ho ⊢
  try rw [hok]
  obtain ⟨pxb1, kxb1, rfl⟩ := form_own ho.o1
  obtain ⟨pxb2, kxb2, rfl⟩ := form_own ho.o2
  have hlo := BB_5.out.size
  have ho' := ho.lo (b := w.heap.size) (by omega)
  clear ho hlo
  have Exg_6 := hide (Exg_5.out.stays hb)
  clear Exg_5
  have Exa_6 := hide (EN4.out.stays hb)
  clear EN4
  have BB_6 := hide (BB_5.out.trans (hb.mono BB_5.out.size))
  clear BB_5
  clear hb
  have hba : Below zcxb.heap.size zcxb (zcxb.alloc (.cells #[.int .i64 xb.owner, .slice pxb1 xb.waits.length kxb1, .slice pxb2 xb.queues.length kxb2] 26)) := (Below.refl _ _).alloc (Nat.le_refl _) _
  have EN7 := hide (GB.made (ho'.lo (b := w.heap.size) (by have := BB_6.out.size; omega)))
  clear ho'
  have Exg_8 := hide (Exg_6.out.stays hba)
  clear Exg_6
  have Exa_8 := hide (Exa_6.out.stays hba)
  clear Exa_6
  have BB_8 := hide (BB_6.out.trans (hba.mono BB_6.out.size))
  clear BB_6
  clear hba
  obtain ⟨Y7, hY7⟩ : ∃ Z, zcxb.alloc (.cells #[.int .i64 xb.owner, .slice pxb1 xb.waits.length kxb1, .slice pxb2 xb.queues.length kxb2] 26) = Z := ⟨_, rfl⟩
  obtain ⟨Gxb, hGxb⟩ : ∃ G, zcxb.heap.size = G := ⟨_, rfl⟩
  have HY7 := hide hY7
  have HGxb := hide hGxb
  rw [hGxb] at EN7
  rw [hY7] at Exg_8 Exa_8 EN7 BB_8
  clear hY7 hGxb
  go_upto_region 6 with fail
  rw [HY7.out, HGxb.out]
  go_wp2_with fail
  refine (drawDelayIn _ w.heap.size _ n hn (HC.out _ BB_8.out) BB_8.out.size).mono ?_
  rintro e zdxh ⟨v1, v2, xh, q, rfl, ho, hx, hb⟩
  have HXxh := hide hx
  clear hx
  obtain ⟨pxh1, kxh1, rfl⟩ := form_own ho.o1
  obtain ⟨pxh2, kxh2, rfl⟩ := form_own ho.o2
  have hlo := BB_8.out.size
  have ho' := ho.lo (b := w.heap.size) (by omega)
  clear ho hlo
  have Exg_9 := hide (Exg_8.out.stays hb)
  clear Exg_8
  have Exa_9 := hide (Exa_8.out.stays hb)
  clear Exa_8
  have Exb_9 := hide (EN7.out.stays hb)
  clear EN7
  have BB_9 := hide (BB_8.out.trans (hb.mono BB_8.out.size))
  clear BB_8
  clear hb
  have hba : Below zdxh.heap.size zdxh (zdxh.alloc (.cells #[.int .i64 xh.owner, .slice pxh1 xh.waits.length kxh1, .slice pxh2 xh.queues.length kxh2] 26)) := (Below.refl _ _).alloc (Nat.le_refl _) _
  have EN10 := hide (GB.made (ho'.lo (b := w.heap.size) (by have := BB_9.out.size; omega)))
  clear ho'
  have Exg_11 := hide (Exg_9.out.stays hba)
  clear Exg_9
  have Exa_11 := hide (Exa_9.out.stays hba)
  clear Exa_9
  have Exb_11 := hide (Exb_9.out.stays hba)
  clear Exb_9
  have BB_11 := hide (BB_9.out.trans (hba.mono BB_9.out.size))
  clear BB_9
  clear hba
  obtain ⟨Y10, hY10⟩ : ∃ Z, zdxh.alloc (.cells #[.int .i64 xh.owner, .slice pxh1 xh.waits.length kxh1, .slice pxh2 xh.queues.length kxh2] 26) = Z := ⟨_, rfl⟩
  obtain ⟨Gxh, hGxh⟩ : ∃ G, zdxh.heap.size = G := ⟨_, rfl⟩
  have HY10 := hide hY10
  have HGxh := hide hGxh
  rw [hGxh] at EN10
  rw [hY10] at Exg_11 Exa_11 Exb_11 EN10 BB_11
  clear hY10 hGxh
  obtain ⟨nq, hnq⟩ : ∃ b, (delayE xh q).2.1 = b := ⟨_, rfl⟩
  obtain ⟨mq, hmq⟩ : ∃ b, (delayE xh q).2.2 = b := ⟨_, rfl⟩
  go_upto_region 7 with fail
  rw [HY10.out, HGxh.out]
  have c_xh_0 := (Lib.cell_of_heap EN10.out.bx 0).trans rfl
  have c_xh_1 := (Lib.cell_of_heap EN10.out.bx 1).trans rfl
  have c_xh_2 := (Lib.cell_of_heap EN10.out.bx 2).trans rfl
  go_wp2_with fail
  clear c_xh_0 c_xh_1 c_xh_2
  refine (HID.out _ _ xh q _ EN10.out.ow.at HXxh.out.len).mono ?_
  rintro e zcxc ⟨v1, v2, rfl, ho, hb⟩
  obtain ⟨xc, hxc⟩ : ∃ y, (delayE xh q).1 = y := ⟨_, rfl⟩
  have HLxc : Hid (GtLen xc) := by rw [← hxc]; exact delay_sm HXxh.out _
  rw [hxc] at ho ⊢
  try rw [hnq]
  try rw [hmq]
  obtain ⟨pxc1, kxc1, rfl⟩ := form_own ho.o1
  obtain ⟨pxc2, kxc2, rfl⟩ := form_own ho.o2
  have hlo := BB_11.out.size
  have ho' := ho.lo (b := w.heap.size) (by omega)
  clear ho hlo
  have Exg_12 := hide (Exg_11.out.stays hb)
  clear Exg_11
  have Exa_12 := hide (Exa_11.out.stays hb)
  clear Exa_11
  have Exb_12 := hide (Exb_11.out.stays hb)
  clear Exb_11
  have Exh_12 := hide (EN10.out.stays hb)
  clear EN10
  have BB_12 := hide (BB_11.out.trans (hb.mono BB_11.out.size))
  clear BB_11
  clear hb
  have hba : Below zcxc.heap.size zcxc (zcxc.alloc (.cells #[.int .i64 xc.owner, .slice pxc1 xc.waits.length kxc1, .slice pxc2 xc.queues.length kxc2] 26)) := (Below.refl _ _).alloc (Nat.le_refl _) _
  have EN13 := hide (GB.made (ho'.lo (b := w.heap.size) (by have := BB_12.out.size; omega)))
  clear ho'
  have Exg_14 := hide (Exg_12.out.stays hba)
  clear Exg_12
  have Exa_14 := hide (Exa_12.out.stays hba)
  clear Exa_12
  have Exb_14 := hide (Exb_12.out.stays hba)
  clear Exb_12
  have Exh_14 := hide (Exh_12.out.stays hba)
  clear Exh_12
  have BB_14 := hide (BB_12.out.trans (hba.mono BB_12.out.size))
  clear BB_12
  clear hba
  obtain ⟨Y13, hY13⟩ : ∃ Z, zcxc.alloc (.cells #[.int .i64 xc.owner, .slice pxc1 xc.waits.length kxc1, .slice pxc2 xc.queues.length kxc2] 26) = Z := ⟨_, rfl⟩
  obtain ⟨Gxc, hGxc⟩ : ∃ G, zcxc.heap.size = G := ⟨_, rfl⟩
  have HY13 := hide hY13
  have HGxc := hide hGxc
  rw [hGxc] at EN13
  rw [hY13] at Exg_14 Exa_14 Exb_14 Exh_14 EN13 BB_14
  clear hY13 hGxc
  go_upto_region 8 with fail
  rw [HY13.out, HGxc.out]
  have c_xh_0 := (Lib.cell_of_heap Exh_14.out.bx 0).trans rfl
  have c_xh_1 := (Lib.cell_of_heap Exh_14.out.bx 1).trans rfl
  have c_xh_2 := (Lib.cell_of_heap Exh_14.out.bx 2).trans rfl
  go_wp2_with fail
  clear c_xh_0 c_xh_1 c_xh_2
  refine (specDelayIn_any _ _ xh q _ Exh_14.out.ow.at HXxh.out.len).mono ?_
  rintro e zcxd ⟨v1, v2, rfl, ho, hb⟩
  obtain ⟨xd, hxd⟩ : ∃ y, (delayE xh q).1 = y := ⟨_, rfl⟩
  have HLxd : Hid (GtLen xd) := by rw [← hxd]; exact delay_sm HXxh.out _
  rw [hxd] at ho ⊢
  try rw [hnq]
  try rw [hmq]
  obtain ⟨pxd1, kxd1, rfl⟩ := form_own ho.o1
  obtain ⟨pxd2, kxd2, rfl⟩ := form_own ho.o2
  have hlo := BB_14.out.size
  have ho' := ho.lo (b := w.heap.size) (by omega)
  clear ho hlo
  have Exg_15 := hide (Exg_14.out.stays hb)
  clear Exg_14
  have Exa_15 := hide (Exa_14.out.stays hb)
  clear Exa_14
  have Exb_15 := hide (Exb_14.out.stays hb)
  clear Exb_14
  have Exh_15 := hide (Exh_14.out.stays hb)
  clear Exh_14
  have Exc_15 := hide (EN13.out.stays hb)
  clear EN13
  have BB_15 := hide (BB_14.out.trans (hb.mono BB_14.out.size))
  clear BB_14
  clear hb
  have hba : Below zcxd.heap.size zcxd (zcxd.alloc (.cells #[.int .i64 xd.owner, .slice pxd1 xd.waits.length kxd1, .slice pxd2 xd.queues.length kxd2] 26)) := (Below.refl _ _).alloc (Nat.le_refl _) _
  have EN16 := hide (GB.made (ho'.lo (b := w.heap.size) (by have := BB_15.out.size; omega)))
  clear ho'
  have Exg_17 := hide (Exg_15.out.stays hba)
  clear Exg_15
  have Exa_17 := hide (Exa_15.out.stays hba)
  clear Exa_15
  have Exb_17 := hide (Exb_15.out.stays hba)
  clear Exb_15
  have Exh_17 := hide (Exh_15.out.stays hba)
  clear Exh_15
  have Exc_17 := hide (Exc_15.out.stays hba)
  clear Exc_15
  have BB_17 := hide (BB_15.out.trans (hba.mono BB_15.out.size))
  clear BB_15
  clear hba
  obtain ⟨Y16, hY16⟩ : ∃ Z, zcxd.alloc (.cells #[.int .i64 xd.owner, .slice pxd1 xd.waits.length kxd1, .slice pxd2 xd.queues.length kxd2] 26) = Z := ⟨_, rfl⟩
  obtain ⟨Gxd, hGxd⟩ : ∃ G, zcxd.heap.size = G := ⟨_, rfl⟩
  have HY16 := hide hY16
  have HGxd := hide hGxd
  rw [hGxd] at EN16
  rw [hY16] at Exg_17 Exa_17 Exb_17 Exh_17 Exc_17 EN16 BB_17
  clear hY16 hGxd
  obtain ⟨xq, hxq⟩ : ∃ b, (contE xh q).2 = b := ⟨_, rfl⟩
  go_upto_region 9 with fail
  rw [HY16.out, HGxd.out]
  have c_xh_0 := (Lib.cell_of_heap Exh_17.out.bx 0).trans rfl
  have c_xh_1 := (Lib.cell_of_heap Exh_17.out.bx 1).trans rfl
  have c_xh_2 := (Lib.cell_of_heap Exh_17.out.bx 2).trans rfl
  go_wp2_with fail
  clear c_xh_0 c_xh_1 c_xh_2
  refine (HIC.out _ _ xh q _ Exh_17.out.ow.at HXxh.out.len).mono ?_
  rintro e zcxe ⟨v1, v2, rfl, ho, hb⟩
  obtain ⟨xe, hxe⟩ : ∃ y, (contE xh q).1 = y := ⟨_, rfl⟩
  have HLxe : Hid (GtLen xe) := by rw [← hxe]; exact cont_sm HXxh.out _
  rw [hxe] at ho ⊢
  try rw [hxq]
  obtain ⟨pxe1, kxe1, rfl⟩ := form_own ho.o1
  obtain ⟨pxe2, kxe2, rfl⟩ := form_own ho.o2
  have hlo := BB_17.out.size
  have ho' := ho.lo (b := w.heap.size) (by omega)
  clear ho hlo
  have Exg_18 := hide (Exg_17.out.stays hb)
  clear Exg_17
  have Exa_18 := hide (Exa_17.out.stays hb)
  clear Exa_17
  have Exb_18 := hide (Exb_17.out.stays hb)
  clear Exb_17
  have Exh_18 := hide (Exh_17.out.stays hb)
  clear Exh_17
  have Exc_18 := hide (Exc_17.out.stays hb)
  clear Exc_17
  have Exd_18 := hide (EN16.out.stays hb)
  clear EN16
  have BB_18 := hide (BB_17.out.trans (hb.mono BB_17.out.size))
  clear BB_17
  clear hb
  have hba : Below zcxe.heap.size zcxe (zcxe.alloc (.cells #[.int .i64 xe.owner, .slice pxe1 xe.waits.length kxe1, .slice pxe2 xe.queues.length kxe2] 26)) := (Below.refl _ _).alloc (Nat.le_refl _) _
  have EN19 := hide (GB.made (ho'.lo (b := w.heap.size) (by have := BB_18.out.size; omega)))
  clear ho'
  have Exg_20 := hide (Exg_18.out.stays hba)
  clear Exg_18
  have Exa_20 := hide (Exa_18.out.stays hba)
  clear Exa_18
  have Exb_20 := hide (Exb_18.out.stays hba)
  clear Exb_18
  have Exh_20 := hide (Exh_18.out.stays hba)
  clear Exh_18
  have Exc_20 := hide (Exc_18.out.stays hba)
  clear Exc_18
  have Exd_20 := hide (Exd_18.out.stays hba)
  clear Exd_18
  have BB_20 := hide (BB_18.out.trans (hba.mono BB_18.out.size))
  clear BB_18
  clear hba
  obtain ⟨Y19, hY19⟩ : ∃ Z, zcxe.alloc (.cells #[.int .i64 xe.owner, .slice pxe1 xe.waits.length kxe1, .slice pxe2 xe.queues.length kxe2] 26) = Z := ⟨_, rfl⟩
  obtain ⟨Gxe, hGxe⟩ : ∃ G, zcxe.heap.size = G := ⟨_, rfl⟩
  have HY19 := hide hY19
  have HGxe := hide hGxe
  rw [hGxe] at EN19
  rw [hY19] at Exg_20 Exa_20 Exb_20 Exh_20 Exc_20 Exd_20 EN19 BB_20
  clear hY19 hGxe
  go_upto_region 10 with fail
  rw [HY19.out, HGxe.out]
  have c_xh_0 := (Lib.cell_of_heap Exh_20.out.bx 0).trans rfl
  have c_xh_1 := (Lib.cell_of_heap Exh_20.out.bx 1).trans rfl
  have c_xh_2 := (Lib.cell_of_heap Exh_20.out.bx 2).trans rfl
  go_wp2_with fail
  clear c_xh_0 c_xh_1 c_xh_2
  refine (specContinueAt_any _ _ xh q _ Exh_20.out.ow.at HXxh.out.len).mono ?_
  rintro e zcxf ⟨v1, v2, rfl, ho, hb⟩
  obtain ⟨xf, hxf⟩ : ∃ y, (contE xh q).1 = y := ⟨_, rfl⟩
  have HLxf : Hid (GtLen xf) := by rw [← hxf]; exact cont_sm HXxh.out _
  rw [hxf] at ho ⊢
  try rw [hxq]
  obtain ⟨pxf1, kxf1, rfl⟩ := form_own ho.o1
  obtain ⟨pxf2, kxf2, rfl⟩ := form_own ho.o2
  have hlo := BB_20.out.size
  have ho' := ho.lo (b := w.heap.size) (by omega)
  clear ho hlo
  have Exg_21 := hide (Exg_20.out.stays hb)
  clear Exg_20
  have Exa_21 := hide (Exa_20.out.stays hb)
  clear Exa_20
  have Exb_21 := hide (Exb_20.out.stays hb)
  clear Exb_20
  have Exh_21 := hide (Exh_20.out.stays hb)
  clear Exh_20
  have Exc_21 := hide (Exc_20.out.stays hb)
  clear Exc_20
  have Exd_21 := hide (Exd_20.out.stays hb)
  clear Exd_20
  have Exe_21 := hide (EN19.out.stays hb)
  clear EN19
  have BB_21 := hide (BB_20.out.trans (hb.mono BB_20.out.size))
  clear BB_20
  clear hb
  have hba : Below zcxf.heap.size zcxf (zcxf.alloc (.cells #[.int .i64 xf.owner, .slice pxf1 xf.waits.length kxf1, .slice pxf2 xf.queues.length kxf2] 26)) := (Below.refl _ _).alloc (Nat.le_refl _) _
  have EN22 := hide (GB.made (ho'.lo (b := w.heap.size) (by have := BB_21.out.size; omega)))
  clear ho'
  have Exg_23 := hide (Exg_21.out.stays hba)
  clear Exg_21
  have Exa_23 := hide (Exa_21.out.stays hba)
  clear Exa_21
  have Exb_23 := hide (Exb_21.out.stays hba)
  clear Exb_21
  have Exh_23 := hide (Exh_21.out.stays hba)
  clear Exh_21
  have Exc_23 := hide (Exc_21.out.stays hba)
  clear Exc_21
  have Exd_23 := hide (Exd_21.out.stays hba)
  clear Exd_21
  have Exe_23 := hide (Exe_21.out.stays hba)
  clear Exe_21
  have BB_23 := hide (BB_21.out.trans (hba.mono BB_21.out.size))
  clear BB_21
  clear hba
  obtain ⟨Y22, hY22⟩ : ∃ Z, zcxf.alloc (.cells #[.int .i64 xf.owner, .slice pxf1 xf.waits.length kxf1, .slice pxf2 xf.queues.length kxf2] 26) = Z := ⟨_, rfl⟩
  obtain ⟨Gxf, hGxf⟩ : ∃ G, zcxf.heap.size = G := ⟨_, rfl⟩
  have HY22 := hide hY22
  have HGxf := hide hGxf
  rw [hGxf] at EN22
  rw [hY22] at Exg_23 Exa_23 Exb_23 Exh_23 Exc_23 Exd_23 Exe_23 EN22 BB_23
  clear hY22 hGxf
  obtain ⟨kq, hkq⟩ : ∃ b, (leaveE xh).2 = b := ⟨_, rfl⟩
  go_upto_region 11 with fail
  rw [HY22.out, HGxf.out]
  have c_xh_0 := (Lib.cell_of_heap Exh_23.out.bx 0).trans rfl
  have c_xh_1 := (Lib.cell_of_heap Exh_23.out.bx 1).trans rfl
  have c_xh_2 := (Lib.cell_of_heap Exh_23.out.bx 2).trans rfl
  go_wp2_with fail
  clear c_xh_0 c_xh_1 c_xh_2
  refine (HIL.out _ _ xh _ Exh_23.out.ow.at HXxh.out.len).mono ?_
  rintro e zcxj ⟨v1, v2, rfl, ho, hb⟩
  obtain ⟨xj, hxj⟩ : ∃ y, (leaveE xh).1 = y := ⟨_, rfl⟩
  have HLxj : Hid (GtLen xj) := by rw [← hxj]; exact leave_sm HXxh.out
  rw [hxj] at ho ⊢
  try rw [hkq]
  obtain ⟨pxj1, kxj1, rfl⟩ := form_own ho.o1
  obtain ⟨pxj2, kxj2, rfl⟩ := form_own ho.o2
  have hlo := BB_23.out.size
  have ho' := ho.lo (b := w.heap.size) (by omega)
  clear ho hlo
  have Exg_24 := hide (Exg_23.out.stays hb)
  clear Exg_23
  have Exa_24 := hide (Exa_23.out.stays hb)
  clear Exa_23
  have Exb_24 := hide (Exb_23.out.stays hb)
  clear Exb_23
  have Exh_24 := hide (Exh_23.out.stays hb)
  clear Exh_23
  have Exc_24 := hide (Exc_23.out.stays hb)
  clear Exc_23
  have Exd_24 := hide (Exd_23.out.stays hb)
  clear Exd_23
  have Exe_24 := hide (Exe_23.out.stays hb)
  clear Exe_23
  have Exf_24 := hide (EN22.out.stays hb)
  clear EN22
  have BB_24 := hide (BB_23.out.trans (hb.mono BB_23.out.size))
  clear BB_23
  clear hb
  have hba : Below zcxj.heap.size zcxj (zcxj.alloc (.cells #[.int .i64 xj.owner, .slice pxj1 xj.waits.length kxj1, .slice pxj2 xj.queues.length kxj2] 26)) := (Below.refl _ _).alloc (Nat.le_refl _) _
  have EN25 := hide (GB.made (ho'.lo (b := w.heap.size) (by have := BB_24.out.size; omega)))
  clear ho'
  have Exg_26 := hide (Exg_24.out.stays hba)
  clear Exg_24
  have Exa_26 := hide (Exa_24.out.stays hba)
  clear Exa_24
  have Exb_26 := hide (Exb_24.out.stays hba)
  clear Exb_24
  have Exh_26 := hide (Exh_24.out.stays hba)
  clear Exh_24
  have Exc_26 := hide (Exc_24.out.stays hba)
  clear Exc_24
  have Exd_26 := hide (Exd_24.out.stays hba)
  clear Exd_24
  have Exe_26 := hide (Exe_24.out.stays hba)
  clear Exe_24
  have Exf_26 := hide (Exf_24.out.stays hba)
  clear Exf_24
  have BB_26 := hide (BB_24.out.trans (hba.mono BB_24.out.size))
  clear BB_24
  clear hba
  obtain ⟨Y25, hY25⟩ : ∃ Z, zcxj.alloc (.cells #[.int .i64 xj.owner, .slice pxj1 xj.waits.length kxj1, .slice pxj2 xj.queues.length kxj2] 26) = Z := ⟨_, rfl⟩
  obtain ⟨Gxj, hGxj⟩ : ∃ G, zcxj.heap.size = G := ⟨_, rfl⟩
  have HY25 := hide hY25
  have HGxj := hide hGxj
  rw [hGxj] at EN25
  rw [hY25] at Exg_26 Exa_26 Exb_26 Exh_26 Exc_26 Exd_26 Exe_26 Exf_26 EN25 BB_26
  clear hY25 hGxj
  go_upto_region 12 with fail
  rw [HY25.out, HGxj.out]
  have c_xh_0 := (Lib.cell_of_heap Exh_26.out.bx 0).trans rfl
  have c_xh_1 := (Lib.cell_of_heap Exh_26.out.bx 1).trans rfl
  have c_xh_2 := (Lib.cell_of_heap Exh_26.out.bx 2).trans rfl
  go_wp2_with fail
  clear c_xh_0 c_xh_1 c_xh_2
  refine (specLeave_any _ _ xh _ Exh_26.out.ow.at HXxh.out.len).mono ?_
  rintro e zcxl ⟨v1, v2, rfl, ho, hb⟩
  obtain ⟨xl, hxl⟩ : ∃ y, (leaveE xh).1 = y := ⟨_, rfl⟩
  have HLxl : Hid (GtLen xl) := by rw [← hxl]; exact leave_sm HXxh.out
  rw [hxl] at ho ⊢
  try rw [hkq]
  obtain ⟨pxl1, kxl1, rfl⟩ := form_own ho.o1
  obtain ⟨pxl2, kxl2, rfl⟩ := form_own ho.o2
  have hlo := BB_26.out.size
  have ho' := ho.lo (b := w.heap.size) (by omega)
  clear ho hlo
  have Exg_27 := hide (Exg_26.out.stays hb)
  clear Exg_26
  have Exa_27 := hide (Exa_26.out.stays hb)
  clear Exa_26
  have Exb_27 := hide (Exb_26.out.stays hb)
  clear Exb_26
  have Exh_27 := hide (Exh_26.out.stays hb)
  clear Exh_26
  have Exc_27 := hide (Exc_26.out.stays hb)
  clear Exc_26
  have Exd_27 := hide (Exd_26.out.stays hb)
  clear Exd_26
  have Exe_27 := hide (Exe_26.out.stays hb)
  clear Exe_26
  have Exf_27 := hide (Exf_26.out.stays hb)
  clear Exf_26
  have Exj_27 := hide (EN25.out.stays hb)
  clear EN25
  have BB_27 := hide (BB_26.out.trans (hb.mono BB_26.out.size))
  clear BB_26
  clear hb
  have hba : Below zcxl.heap.size zcxl (zcxl.alloc (.cells #[.int .i64 xl.owner, .slice pxl1 xl.waits.length kxl1, .slice pxl2 xl.queues.length kxl2] 26)) := (Below.refl _ _).alloc (Nat.le_refl _) _
  have EN28 := hide (GB.made (ho'.lo (b := w.heap.size) (by have := BB_27.out.size; omega)))
  clear ho'
  have Exg_29 := hide (Exg_27.out.stays hba)
  clear Exg_27
  have Exa_29 := hide (Exa_27.out.stays hba)
  clear Exa_27
  have Exb_29 := hide (Exb_27.out.stays hba)
  clear Exb_27
  have Exh_29 := hide (Exh_27.out.stays hba)
  clear Exh_27
  have Exc_29 := hide (Exc_27.out.stays hba)
  clear Exc_27
  have Exd_29 := hide (Exd_27.out.stays hba)
  clear Exd_27
  have Exe_29 := hide (Exe_27.out.stays hba)
  clear Exe_27
  have Exf_29 := hide (Exf_27.out.stays hba)
  clear Exf_27
  have Exj_29 := hide (Exj_27.out.stays hba)
  clear Exj_27
  have BB_29 := hide (BB_27.out.trans (hba.mono BB_27.out.size))
  clear BB_27
  clear hba
  obtain ⟨Y28, hY28⟩ : ∃ Z, zcxl.alloc (.cells #[.int .i64 xl.owner, .slice pxl1 xl.waits.length kxl1, .slice pxl2 xl.queues.length kxl2] 26) = Z := ⟨_, rfl⟩
  obtain ⟨Gxl, hGxl⟩ : ∃ G, zcxl.heap.size = G := ⟨_, rfl⟩
  have HY28 := hide hY28
  have HGxl := hide hGxl
  rw [hGxl] at EN28
  rw [hY28] at Exg_29 Exa_29 Exb_29 Exh_29 Exc_29 Exd_29 Exe_29 Exf_29 Exj_29 EN28 BB_29
  clear hY28 hGxl
  go_upto_region 13 with fail
  rw [HY28.out, HGxl.out]
  have e_xa : xa = xb := hxa.symm.trans hxb
  subst e_xa
  have e_xc : xc = xd := hxc.symm.trans hxd
  subst e_xc
  have e_xe : xe = xf := hxe.symm.trans hxf
  subst e_xe
  have e_xj : xj = xl := hxj.symm.trans hxl
  subst e_xj
  have KC : Hid (∀ z : World, Below Y28.heap.size Y28 z → (z.cell? ⟨Gxa, 0, none⟩ = some (.int .i64 xa.owner) ∧ z.cell? ⟨Gxa, 1, none⟩ = some (.slice pxa1 xa.waits.length kxa1) ∧ z.cell? ⟨Gxa, 2, none⟩ = some (.slice pxa2 xa.queues.length kxa2) ∧ z.cell? ⟨Gxb, 0, none⟩ = some (.int .i64 xa.owner) ∧ z.cell? ⟨Gxb, 1, none⟩ = some (.slice pxb1 xa.waits.length kxb1) ∧ z.cell? ⟨Gxb, 2, none⟩ = some (.slice pxb2 xa.queues.length kxb2) ∧ z.cell? ⟨Gxc, 0, none⟩ = some (.int .i64 xc.owner) ∧ z.cell? ⟨Gxc, 1, none⟩ = some (.slice pxc1 xc.waits.length kxc1) ∧ z.cell? ⟨Gxc, 2, none⟩ = some (.slice pxc2 xc.queues.length kxc2) ∧ z.cell? ⟨Gxd, 0, none⟩ = some (.int .i64 xc.owner) ∧ z.cell? ⟨Gxd, 1, none⟩ = some (.slice pxd1 xc.waits.length kxd1) ∧ z.cell? ⟨Gxd, 2, none⟩ = some (.slice pxd2 xc.queues.length kxd2) ∧ z.cell? ⟨Gxe, 0, none⟩ = some (.int .i64 xe.owner) ∧ z.cell? ⟨Gxe, 1, none⟩ = some (.slice pxe1 xe.waits.length kxe1) ∧ z.cell? ⟨Gxe, 2, none⟩ = some (.slice pxe2 xe.queues.length kxe2) ∧ z.cell? ⟨Gxf, 0, none⟩ = some (.int .i64 xe.owner) ∧ z.cell? ⟨Gxf, 1, none⟩ = some (.slice pxf1 xe.waits.length kxf1) ∧ z.cell? ⟨Gxf, 2, none⟩ = some (.slice pxf2 xe.queues.length kxf2) ∧ z.cell? ⟨Gxj, 0, none⟩ = some (.int .i64 xj.owner) ∧ z.cell? ⟨Gxj, 1, none⟩ = some (.slice pxj1 xj.waits.length kxj1) ∧ z.cell? ⟨Gxj, 2, none⟩ = some (.slice pxj2 xj.queues.length kxj2) ∧ z.cell? ⟨Gxl, 0, none⟩ = some (.int .i64 xj.owner) ∧ z.cell? ⟨Gxl, 1, none⟩ = some (.slice pxl1 xj.waits.length kxl1) ∧ z.cell? ⟨Gxl, 2, none⟩ = some (.slice pxl2 xj.queues.length kxl2) ∧ z.cell? ⟨Gxg, 0, none⟩ = some (.int .i64 xg.owner) ∧ z.cell? ⟨Gxg, 1, none⟩ = some (.slice pxg1 xg.waits.length kxg1) ∧ z.cell? ⟨Gxg, 2, none⟩ = some (.slice pxg2 xg.queues.length kxg2) ∧ Hid (Below Y28.heap.size Y28 z))) := fun z hz => ⟨Lib.cell_of_heap (Exa_29.out.stays hz).bx 0, Lib.cell_of_heap (Exa_29.out.stays hz).bx 1, Lib.cell_of_heap (Exa_29.out.stays hz).bx 2, Lib.cell_of_heap (Exb_29.out.stays hz).bx 0, Lib.cell_of_heap (Exb_29.out.stays hz).bx 1, Lib.cell_of_heap (Exb_29.out.stays hz).bx 2, Lib.cell_of_heap (Exc_29.out.stays hz).bx 0, Lib.cell_of_heap (Exc_29.out.stays hz).bx 1, Lib.cell_of_heap (Exc_29.out.stays hz).bx 2, Lib.cell_of_heap (Exd_29.out.stays hz).bx 0, Lib.cell_of_heap (Exd_29.out.stays hz).bx 1, Lib.cell_of_heap (Exd_29.out.stays hz).bx 2, Lib.cell_of_heap (Exe_29.out.stays hz).bx 0, Lib.cell_of_heap (Exe_29.out.stays hz).bx 1, Lib.cell_of_heap (Exe_29.out.stays hz).bx 2, Lib.cell_of_heap (Exf_29.out.stays hz).bx 0, Lib.cell_of_heap (Exf_29.out.stays hz).bx 1, Lib.cell_of_heap (Exf_29.out.stays hz).bx 2, Lib.cell_of_heap (Exj_29.out.stays hz).bx 0, Lib.cell_of_heap (Exj_29.out.stays hz).bx 1, Lib.cell_of_heap (Exj_29.out.stays hz).bx 2, Lib.cell_of_heap (EN28.out.stays hz).bx 0, Lib.cell_of_heap (EN28.out.stays hz).bx 1, Lib.cell_of_heap (EN28.out.stays hz).bx 2, Lib.cell_of_heap (Exg_29.out.stays hz).bx 0, Lib.cell_of_heap (Exg_29.out.stays hz).bx 1, Lib.cell_of_heap (Exg_29.out.stays hz).bx 2, hz⟩
  have KV : Hid (∀ z : World, (z.cell? ⟨Gxa, 0, none⟩ = some (.int .i64 xa.owner) ∧ z.cell? ⟨Gxa, 1, none⟩ = some (.slice pxa1 xa.waits.length kxa1) ∧ z.cell? ⟨Gxa, 2, none⟩ = some (.slice pxa2 xa.queues.length kxa2) ∧ z.cell? ⟨Gxb, 0, none⟩ = some (.int .i64 xa.owner) ∧ z.cell? ⟨Gxb, 1, none⟩ = some (.slice pxb1 xa.waits.length kxb1) ∧ z.cell? ⟨Gxb, 2, none⟩ = some (.slice pxb2 xa.queues.length kxb2) ∧ z.cell? ⟨Gxc, 0, none⟩ = some (.int .i64 xc.owner) ∧ z.cell? ⟨Gxc, 1, none⟩ = some (.slice pxc1 xc.waits.length kxc1) ∧ z.cell? ⟨Gxc, 2, none⟩ = some (.slice pxc2 xc.queues.length kxc2) ∧ z.cell? ⟨Gxd, 0, none⟩ = some (.int .i64 xc.owner) ∧ z.cell? ⟨Gxd, 1, none⟩ = some (.slice pxd1 xc.waits.length kxd1) ∧ z.cell? ⟨Gxd, 2, none⟩ = some (.slice pxd2 xc.queues.length kxd2) ∧ z.cell? ⟨Gxe, 0, none⟩ = some (.int .i64 xe.owner) ∧ z.cell? ⟨Gxe, 1, none⟩ = some (.slice pxe1 xe.waits.length kxe1) ∧ z.cell? ⟨Gxe, 2, none⟩ = some (.slice pxe2 xe.queues.length kxe2) ∧ z.cell? ⟨Gxf, 0, none⟩ = some (.int .i64 xe.owner) ∧ z.cell? ⟨Gxf, 1, none⟩ = some (.slice pxf1 xe.waits.length kxf1) ∧ z.cell? ⟨Gxf, 2, none⟩ = some (.slice pxf2 xe.queues.length kxf2) ∧ z.cell? ⟨Gxj, 0, none⟩ = some (.int .i64 xj.owner) ∧ z.cell? ⟨Gxj, 1, none⟩ = some (.slice pxj1 xj.waits.length kxj1) ∧ z.cell? ⟨Gxj, 2, none⟩ = some (.slice pxj2 xj.queues.length kxj2) ∧ z.cell? ⟨Gxl, 0, none⟩ = some (.int .i64 xj.owner) ∧ z.cell? ⟨Gxl, 1, none⟩ = some (.slice pxl1 xj.waits.length kxl1) ∧ z.cell? ⟨Gxl, 2, none⟩ = some (.slice pxl2 xj.queues.length kxl2) ∧ z.cell? ⟨Gxg, 0, none⟩ = some (.int .i64 xg.owner) ∧ z.cell? ⟨Gxg, 1, none⟩ = some (.slice pxg1 xg.waits.length kxg1) ∧ z.cell? ⟨Gxg, 2, none⟩ = some (.slice pxg2 xg.queues.length kxg2) ∧ Hid (Below Y28.heap.size Y28 z)) → Below Y28.heap.size Y28 z) := fun z hz => hz.2.2.2.2.2.2.2.2.2.2.2.2.2.2.2.2.2.2.2.2.2.2.2.2.2.2.2.out
  have KP : Hid (∀ z z' : World, (z.cell? ⟨Gxa, 0, none⟩ = some (.int .i64 xa.owner) ∧ z.cell? ⟨Gxa, 1, none⟩ = some (.slice pxa1 xa.waits.length kxa1) ∧ z.cell? ⟨Gxa, 2, none⟩ = some (.slice pxa2 xa.queues.length kxa2) ∧ z.cell? ⟨Gxb, 0, none⟩ = some (.int .i64 xa.owner) ∧ z.cell? ⟨Gxb, 1, none⟩ = some (.slice pxb1 xa.waits.length kxb1) ∧ z.cell? ⟨Gxb, 2, none⟩ = some (.slice pxb2 xa.queues.length kxb2) ∧ z.cell? ⟨Gxc, 0, none⟩ = some (.int .i64 xc.owner) ∧ z.cell? ⟨Gxc, 1, none⟩ = some (.slice pxc1 xc.waits.length kxc1) ∧ z.cell? ⟨Gxc, 2, none⟩ = some (.slice pxc2 xc.queues.length kxc2) ∧ z.cell? ⟨Gxd, 0, none⟩ = some (.int .i64 xc.owner) ∧ z.cell? ⟨Gxd, 1, none⟩ = some (.slice pxd1 xc.waits.length kxd1) ∧ z.cell? ⟨Gxd, 2, none⟩ = some (.slice pxd2 xc.queues.length kxd2) ∧ z.cell? ⟨Gxe, 0, none⟩ = some (.int .i64 xe.owner) ∧ z.cell? ⟨Gxe, 1, none⟩ = some (.slice pxe1 xe.waits.length kxe1) ∧ z.cell? ⟨Gxe, 2, none⟩ = some (.slice pxe2 xe.queues.length kxe2) ∧ z.cell? ⟨Gxf, 0, none⟩ = some (.int .i64 xe.owner) ∧ z.cell? ⟨Gxf, 1, none⟩ = some (.slice pxf1 xe.waits.length kxf1) ∧ z.cell? ⟨Gxf, 2, none⟩ = some (.slice pxf2 xe.queues.length kxf2) ∧ z.cell? ⟨Gxj, 0, none⟩ = some (.int .i64 xj.owner) ∧ z.cell? ⟨Gxj, 1, none⟩ = some (.slice pxj1 xj.waits.length kxj1) ∧ z.cell? ⟨Gxj, 2, none⟩ = some (.slice pxj2 xj.queues.length kxj2) ∧ z.cell? ⟨Gxl, 0, none⟩ = some (.int .i64 xj.owner) ∧ z.cell? ⟨Gxl, 1, none⟩ = some (.slice pxl1 xj.waits.length kxl1) ∧ z.cell? ⟨Gxl, 2, none⟩ = some (.slice pxl2 xj.queues.length kxl2) ∧ z.cell? ⟨Gxg, 0, none⟩ = some (.int .i64 xg.owner) ∧ z.cell? ⟨Gxg, 1, none⟩ = some (.slice pxg1 xg.waits.length kxg1) ∧ z.cell? ⟨Gxg, 2, none⟩ = some (.slice pxg2 xg.queues.length kxg2) ∧ Hid (Below Y28.heap.size Y28 z)) → Below z.heap.size z z' → (z'.cell? ⟨Gxa, 0, none⟩ = some (.int .i64 xa.owner) ∧ z'.cell? ⟨Gxa, 1, none⟩ = some (.slice pxa1 xa.waits.length kxa1) ∧ z'.cell? ⟨Gxa, 2, none⟩ = some (.slice pxa2 xa.queues.length kxa2) ∧ z'.cell? ⟨Gxb, 0, none⟩ = some (.int .i64 xa.owner) ∧ z'.cell? ⟨Gxb, 1, none⟩ = some (.slice pxb1 xa.waits.length kxb1) ∧ z'.cell? ⟨Gxb, 2, none⟩ = some (.slice pxb2 xa.queues.length kxb2) ∧ z'.cell? ⟨Gxc, 0, none⟩ = some (.int .i64 xc.owner) ∧ z'.cell? ⟨Gxc, 1, none⟩ = some (.slice pxc1 xc.waits.length kxc1) ∧ z'.cell? ⟨Gxc, 2, none⟩ = some (.slice pxc2 xc.queues.length kxc2) ∧ z'.cell? ⟨Gxd, 0, none⟩ = some (.int .i64 xc.owner) ∧ z'.cell? ⟨Gxd, 1, none⟩ = some (.slice pxd1 xc.waits.length kxd1) ∧ z'.cell? ⟨Gxd, 2, none⟩ = some (.slice pxd2 xc.queues.length kxd2) ∧ z'.cell? ⟨Gxe, 0, none⟩ = some (.int .i64 xe.owner) ∧ z'.cell? ⟨Gxe, 1, none⟩ = some (.slice pxe1 xe.waits.length kxe1) ∧ z'.cell? ⟨Gxe, 2, none⟩ = some (.slice pxe2 xe.queues.length kxe2) ∧ z'.cell? ⟨Gxf, 0, none⟩ = some (.int .i64 xe.owner) ∧ z'.cell? ⟨Gxf, 1, none⟩ = some (.slice pxf1 xe.waits.length kxf1) ∧ z'.cell? ⟨Gxf, 2, none⟩ = some (.slice pxf2 xe.queues.length kxf2) ∧ z'.cell? ⟨Gxj, 0, none⟩ = some (.int .i64 xj.owner) ∧ z'.cell? ⟨Gxj, 1, none⟩ = some (.slice pxj1 xj.waits.length kxj1) ∧ z'.cell? ⟨Gxj, 2, none⟩ = some (.slice pxj2 xj.queues.length kxj2) ∧ z'.cell? ⟨Gxl, 0, none⟩ = some (.int .i64 xj.owner) ∧ z'.cell? ⟨Gxl, 1, none⟩ = some (.slice pxl1 xj.waits.length kxl1) ∧ z'.cell? ⟨Gxl, 2, none⟩ = some (.slice pxl2 xj.queues.length kxl2) ∧ z'.cell? ⟨Gxg, 0, none⟩ = some (.int .i64 xg.owner) ∧ z'.cell? ⟨Gxg, 1, none⟩ = some (.slice pxg1 xg.waits.length kxg1) ∧ z'.cell? ⟨Gxg, 2, none⟩ = some (.slice pxg2 xg.queues.length kxg2) ∧ Hid (Below Y28.heap.size Y28 z'))) := fun z z' hz hb => KC.out _ ((KV.out _ hz).trans (hb.mono (KV.out _ hz).size))
  have K0 := hide (KC.out _ (Below.refl Y28.heap.size Y28).drew)
  have SA0 : Hid (∀ z : World, (z.cell? ⟨Gxa, 0, none⟩ = some (.int .i64 xa.owner) ∧ z.cell? ⟨Gxa, 1, none⟩ = some (.slice pxa1 xa.waits.length kxa1) ∧ z.cell? ⟨Gxa, 2, none⟩ = some (.slice pxa2 xa.queues.length kxa2) ∧ z.cell? ⟨Gxb, 0, none⟩ = some (.int .i64 xa.owner) ∧ z.cell? ⟨Gxb, 1, none⟩ = some (.slice pxb1 xa.waits.length kxb1) ∧ z.cell? ⟨Gxb, 2, none⟩ = some (.slice pxb2 xa.queues.length kxb2) ∧ z.cell? ⟨Gxc, 0, none⟩ = some (.int .i64 xc.owner) ∧ z.cell? ⟨Gxc, 1, none⟩ = some (.slice pxc1 xc.waits.length kxc1) ∧ z.cell? ⟨Gxc, 2, none⟩ = some (.slice pxc2 xc.queues.length kxc2) ∧ z.cell? ⟨Gxd, 0, none⟩ = some (.int .i64 xc.owner) ∧ z.cell? ⟨Gxd, 1, none⟩ = some (.slice pxd1 xc.waits.length kxd1) ∧ z.cell? ⟨Gxd, 2, none⟩ = some (.slice pxd2 xc.queues.length kxd2) ∧ z.cell? ⟨Gxe, 0, none⟩ = some (.int .i64 xe.owner) ∧ z.cell? ⟨Gxe, 1, none⟩ = some (.slice pxe1 xe.waits.length kxe1) ∧ z.cell? ⟨Gxe, 2, none⟩ = some (.slice pxe2 xe.queues.length kxe2) ∧ z.cell? ⟨Gxf, 0, none⟩ = some (.int .i64 xe.owner) ∧ z.cell? ⟨Gxf, 1, none⟩ = some (.slice pxf1 xe.waits.length kxf1) ∧ z.cell? ⟨Gxf, 2, none⟩ = some (.slice pxf2 xe.queues.length kxf2) ∧ z.cell? ⟨Gxj, 0, none⟩ = some (.int .i64 xj.owner) ∧ z.cell? ⟨Gxj, 1, none⟩ = some (.slice pxj1 xj.waits.length kxj1) ∧ z.cell? ⟨Gxj, 2, none⟩ = some (.slice pxj2 xj.queues.length kxj2) ∧ z.cell? ⟨Gxl, 0, none⟩ = some (.int .i64 xj.owner) ∧ z.cell? ⟨Gxl, 1, none⟩ = some (.slice pxl1 xj.waits.length kxl1) ∧ z.cell? ⟨Gxl, 2, none⟩ = some (.slice pxl2 xj.queues.length kxl2) ∧ z.cell? ⟨Gxg, 0, none⟩ = some (.int .i64 xg.owner) ∧ z.cell? ⟨Gxg, 1, none⟩ = some (.slice pxg1 xg.waits.length kxg1) ∧ z.cell? ⟨Gxg, 2, none⟩ = some (.slice pxg2 xg.queues.length kxg2) ∧ Hid (Below Y28.heap.size Y28 z)) → Calls Try.prog 14 #[.agg #[.int .i64 xa.owner, .slice pxa1 xa.waits.length kxa1, .slice pxa2 xa.queues.length kxa2], .agg #[.int .i64 xa.owner, .slice pxb1 xa.waits.length kxb1, .slice pxb2 xa.queues.length kxb2]] z fun e w' => e = .returned (.bool true) ∧ Below z.heap.size z w') := fun z hz => sameGate_same _ _ _ _ xa z (Exa_29.out.stays (KV.out _ hz)).ow.at (Exb_29.out.stays (KV.out _ hz)).ow.at HLxa.out
  have SA1 : Hid (∀ z : World, (z.cell? ⟨Gxa, 0, none⟩ = some (.int .i64 xa.owner) ∧ z.cell? ⟨Gxa, 1, none⟩ = some (.slice pxa1 xa.waits.length kxa1) ∧ z.cell? ⟨Gxa, 2, none⟩ = some (.slice pxa2 xa.queues.length kxa2) ∧ z.cell? ⟨Gxb, 0, none⟩ = some (.int .i64 xa.owner) ∧ z.cell? ⟨Gxb, 1, none⟩ = some (.slice pxb1 xa.waits.length kxb1) ∧ z.cell? ⟨Gxb, 2, none⟩ = some (.slice pxb2 xa.queues.length kxb2) ∧ z.cell? ⟨Gxc, 0, none⟩ = some (.int .i64 xc.owner) ∧ z.cell? ⟨Gxc, 1, none⟩ = some (.slice pxc1 xc.waits.length kxc1) ∧ z.cell? ⟨Gxc, 2, none⟩ = some (.slice pxc2 xc.queues.length kxc2) ∧ z.cell? ⟨Gxd, 0, none⟩ = some (.int .i64 xc.owner) ∧ z.cell? ⟨Gxd, 1, none⟩ = some (.slice pxd1 xc.waits.length kxd1) ∧ z.cell? ⟨Gxd, 2, none⟩ = some (.slice pxd2 xc.queues.length kxd2) ∧ z.cell? ⟨Gxe, 0, none⟩ = some (.int .i64 xe.owner) ∧ z.cell? ⟨Gxe, 1, none⟩ = some (.slice pxe1 xe.waits.length kxe1) ∧ z.cell? ⟨Gxe, 2, none⟩ = some (.slice pxe2 xe.queues.length kxe2) ∧ z.cell? ⟨Gxf, 0, none⟩ = some (.int .i64 xe.owner) ∧ z.cell? ⟨Gxf, 1, none⟩ = some (.slice pxf1 xe.waits.length kxf1) ∧ z.cell? ⟨Gxf, 2, none⟩ = some (.slice pxf2 xe.queues.length kxf2) ∧ z.cell? ⟨Gxj, 0, none⟩ = some (.int .i64 xj.owner) ∧ z.cell? ⟨Gxj, 1, none⟩ = some (.slice pxj1 xj.waits.length kxj1) ∧ z.cell? ⟨Gxj, 2, none⟩ = some (.slice pxj2 xj.queues.length kxj2) ∧ z.cell? ⟨Gxl, 0, none⟩ = some (.int .i64 xj.owner) ∧ z.cell? ⟨Gxl, 1, none⟩ = some (.slice pxl1 xj.waits.length kxl1) ∧ z.cell? ⟨Gxl, 2, none⟩ = some (.slice pxl2 xj.queues.length kxl2) ∧ z.cell? ⟨Gxg, 0, none⟩ = some (.int .i64 xg.owner) ∧ z.cell? ⟨Gxg, 1, none⟩ = some (.slice pxg1 xg.waits.length kxg1) ∧ z.cell? ⟨Gxg, 2, none⟩ = some (.slice pxg2 xg.queues.length kxg2) ∧ Hid (Below Y28.heap.size Y28 z)) → Calls Try.prog 14 #[.agg #[.int .i64 xc.owner, .slice pxc1 xc.waits.length kxc1, .slice pxc2 xc.queues.length kxc2], .agg #[.int .i64 xc.owner, .slice pxd1 xc.waits.length kxd1, .slice pxd2 xc.queues.length kxd2]] z fun e w' => e = .returned (.bool true) ∧ Below z.heap.size z w') := fun z hz => sameGate_same _ _ _ _ xc z (Exc_29.out.stays (KV.out _ hz)).ow.at (Exd_29.out.stays (KV.out _ hz)).ow.at HLxc.out
  have SA2 : Hid (∀ z : World, (z.cell? ⟨Gxa, 0, none⟩ = some (.int .i64 xa.owner) ∧ z.cell? ⟨Gxa, 1, none⟩ = some (.slice pxa1 xa.waits.length kxa1) ∧ z.cell? ⟨Gxa, 2, none⟩ = some (.slice pxa2 xa.queues.length kxa2) ∧ z.cell? ⟨Gxb, 0, none⟩ = some (.int .i64 xa.owner) ∧ z.cell? ⟨Gxb, 1, none⟩ = some (.slice pxb1 xa.waits.length kxb1) ∧ z.cell? ⟨Gxb, 2, none⟩ = some (.slice pxb2 xa.queues.length kxb2) ∧ z.cell? ⟨Gxc, 0, none⟩ = some (.int .i64 xc.owner) ∧ z.cell? ⟨Gxc, 1, none⟩ = some (.slice pxc1 xc.waits.length kxc1) ∧ z.cell? ⟨Gxc, 2, none⟩ = some (.slice pxc2 xc.queues.length kxc2) ∧ z.cell? ⟨Gxd, 0, none⟩ = some (.int .i64 xc.owner) ∧ z.cell? ⟨Gxd, 1, none⟩ = some (.slice pxd1 xc.waits.length kxd1) ∧ z.cell? ⟨Gxd, 2, none⟩ = some (.slice pxd2 xc.queues.length kxd2) ∧ z.cell? ⟨Gxe, 0, none⟩ = some (.int .i64 xe.owner) ∧ z.cell? ⟨Gxe, 1, none⟩ = some (.slice pxe1 xe.waits.length kxe1) ∧ z.cell? ⟨Gxe, 2, none⟩ = some (.slice pxe2 xe.queues.length kxe2) ∧ z.cell? ⟨Gxf, 0, none⟩ = some (.int .i64 xe.owner) ∧ z.cell? ⟨Gxf, 1, none⟩ = some (.slice pxf1 xe.waits.length kxf1) ∧ z.cell? ⟨Gxf, 2, none⟩ = some (.slice pxf2 xe.queues.length kxf2) ∧ z.cell? ⟨Gxj, 0, none⟩ = some (.int .i64 xj.owner) ∧ z.cell? ⟨Gxj, 1, none⟩ = some (.slice pxj1 xj.waits.length kxj1) ∧ z.cell? ⟨Gxj, 2, none⟩ = some (.slice pxj2 xj.queues.length kxj2) ∧ z.cell? ⟨Gxl, 0, none⟩ = some (.int .i64 xj.owner) ∧ z.cell? ⟨Gxl, 1, none⟩ = some (.slice pxl1 xj.waits.length kxl1) ∧ z.cell? ⟨Gxl, 2, none⟩ = some (.slice pxl2 xj.queues.length kxl2) ∧ z.cell? ⟨Gxg, 0, none⟩ = some (.int .i64 xg.owner) ∧ z.cell? ⟨Gxg, 1, none⟩ = some (.slice pxg1 xg.waits.length kxg1) ∧ z.cell? ⟨Gxg, 2, none⟩ = some (.slice pxg2 xg.queues.length kxg2) ∧ Hid (Below Y28.heap.size Y28 z)) → Calls Try.prog 14 #[.agg #[.int .i64 xe.owner, .slice pxe1 xe.waits.length kxe1, .slice pxe2 xe.queues.length kxe2], .agg #[.int .i64 xe.owner, .slice pxf1 xe.waits.length kxf1, .slice pxf2 xe.queues.length kxf2]] z fun e w' => e = .returned (.bool true) ∧ Below z.heap.size z w') := fun z hz => sameGate_same _ _ _ _ xe z (Exe_29.out.stays (KV.out _ hz)).ow.at (Exf_29.out.stays (KV.out _ hz)).ow.at HLxe.out
  have SA3 : Hid (∀ z : World, (z.cell? ⟨Gxa, 0, none⟩ = some (.int .i64 xa.owner) ∧ z.cell? ⟨Gxa, 1, none⟩ = some (.slice pxa1 xa.waits.length kxa1) ∧ z.cell? ⟨Gxa, 2, none⟩ = some (.slice pxa2 xa.queues.length kxa2) ∧ z.cell? ⟨Gxb, 0, none⟩ = some (.int .i64 xa.owner) ∧ z.cell? ⟨Gxb, 1, none⟩ = some (.slice pxb1 xa.waits.length kxb1) ∧ z.cell? ⟨Gxb, 2, none⟩ = some (.slice pxb2 xa.queues.length kxb2) ∧ z.cell? ⟨Gxc, 0, none⟩ = some (.int .i64 xc.owner) ∧ z.cell? ⟨Gxc, 1, none⟩ = some (.slice pxc1 xc.waits.length kxc1) ∧ z.cell? ⟨Gxc, 2, none⟩ = some (.slice pxc2 xc.queues.length kxc2) ∧ z.cell? ⟨Gxd, 0, none⟩ = some (.int .i64 xc.owner) ∧ z.cell? ⟨Gxd, 1, none⟩ = some (.slice pxd1 xc.waits.length kxd1) ∧ z.cell? ⟨Gxd, 2, none⟩ = some (.slice pxd2 xc.queues.length kxd2) ∧ z.cell? ⟨Gxe, 0, none⟩ = some (.int .i64 xe.owner) ∧ z.cell? ⟨Gxe, 1, none⟩ = some (.slice pxe1 xe.waits.length kxe1) ∧ z.cell? ⟨Gxe, 2, none⟩ = some (.slice pxe2 xe.queues.length kxe2) ∧ z.cell? ⟨Gxf, 0, none⟩ = some (.int .i64 xe.owner) ∧ z.cell? ⟨Gxf, 1, none⟩ = some (.slice pxf1 xe.waits.length kxf1) ∧ z.cell? ⟨Gxf, 2, none⟩ = some (.slice pxf2 xe.queues.length kxf2) ∧ z.cell? ⟨Gxj, 0, none⟩ = some (.int .i64 xj.owner) ∧ z.cell? ⟨Gxj, 1, none⟩ = some (.slice pxj1 xj.waits.length kxj1) ∧ z.cell? ⟨Gxj, 2, none⟩ = some (.slice pxj2 xj.queues.length kxj2) ∧ z.cell? ⟨Gxl, 0, none⟩ = some (.int .i64 xj.owner) ∧ z.cell? ⟨Gxl, 1, none⟩ = some (.slice pxl1 xj.waits.length kxl1) ∧ z.cell? ⟨Gxl, 2, none⟩ = some (.slice pxl2 xj.queues.length kxl2) ∧ z.cell? ⟨Gxg, 0, none⟩ = some (.int .i64 xg.owner) ∧ z.cell? ⟨Gxg, 1, none⟩ = some (.slice pxg1 xg.waits.length kxg1) ∧ z.cell? ⟨Gxg, 2, none⟩ = some (.slice pxg2 xg.queues.length kxg2) ∧ Hid (Below Y28.heap.size Y28 z)) → Calls Try.prog 14 #[.agg #[.int .i64 xj.owner, .slice pxj1 xj.waits.length kxj1, .slice pxj2 xj.queues.length kxj2], .agg #[.int .i64 xj.owner, .slice pxl1 xj.waits.length kxl1, .slice pxl2 xj.queues.length kxl2]] z fun e w' => e = .returned (.bool true) ∧ Below z.heap.size z w') := fun z hz => sameGate_same _ _ _ _ xj z (Exj_29.out.stays (KV.out _ hz)).ow.at (EN28.out.stays (KV.out _ hz)).ow.at HLxj.out
  obtain ⟨gk, hgk⟩ : ∃ b, gateOkB xg = b := ⟨_, rfl⟩
  have OI : Hid (∀ z : World, (z.cell? ⟨Gxa, 0, none⟩ = some (.int .i64 xa.owner) ∧ z.cell? ⟨Gxa, 1, none⟩ = some (.slice pxa1 xa.waits.length kxa1) ∧ z.cell? ⟨Gxa, 2, none⟩ = some (.slice pxa2 xa.queues.length kxa2) ∧ z.cell? ⟨Gxb, 0, none⟩ = some (.int .i64 xa.owner) ∧ z.cell? ⟨Gxb, 1, none⟩ = some (.slice pxb1 xa.waits.length kxb1) ∧ z.cell? ⟨Gxb, 2, none⟩ = some (.slice pxb2 xa.queues.length kxb2) ∧ z.cell? ⟨Gxc, 0, none⟩ = some (.int .i64 xc.owner) ∧ z.cell? ⟨Gxc, 1, none⟩ = some (.slice pxc1 xc.waits.length kxc1) ∧ z.cell? ⟨Gxc, 2, none⟩ = some (.slice pxc2 xc.queues.length kxc2) ∧ z.cell? ⟨Gxd, 0, none⟩ = some (.int .i64 xc.owner) ∧ z.cell? ⟨Gxd, 1, none⟩ = some (.slice pxd1 xc.waits.length kxd1) ∧ z.cell? ⟨Gxd, 2, none⟩ = some (.slice pxd2 xc.queues.length kxd2) ∧ z.cell? ⟨Gxe, 0, none⟩ = some (.int .i64 xe.owner) ∧ z.cell? ⟨Gxe, 1, none⟩ = some (.slice pxe1 xe.waits.length kxe1) ∧ z.cell? ⟨Gxe, 2, none⟩ = some (.slice pxe2 xe.queues.length kxe2) ∧ z.cell? ⟨Gxf, 0, none⟩ = some (.int .i64 xe.owner) ∧ z.cell? ⟨Gxf, 1, none⟩ = some (.slice pxf1 xe.waits.length kxf1) ∧ z.cell? ⟨Gxf, 2, none⟩ = some (.slice pxf2 xe.queues.length kxf2) ∧ z.cell? ⟨Gxj, 0, none⟩ = some (.int .i64 xj.owner) ∧ z.cell? ⟨Gxj, 1, none⟩ = some (.slice pxj1 xj.waits.length kxj1) ∧ z.cell? ⟨Gxj, 2, none⟩ = some (.slice pxj2 xj.queues.length kxj2) ∧ z.cell? ⟨Gxl, 0, none⟩ = some (.int .i64 xj.owner) ∧ z.cell? ⟨Gxl, 1, none⟩ = some (.slice pxl1 xj.waits.length kxl1) ∧ z.cell? ⟨Gxl, 2, none⟩ = some (.slice pxl2 xj.queues.length kxl2) ∧ z.cell? ⟨Gxg, 0, none⟩ = some (.int .i64 xg.owner) ∧ z.cell? ⟨Gxg, 1, none⟩ = some (.slice pxg1 xg.waits.length kxg1) ∧ z.cell? ⟨Gxg, 2, none⟩ = some (.slice pxg2 xg.queues.length kxg2) ∧ Hid (Below Y28.heap.size Y28 z)) → Calls Try.prog 11 #[.agg #[.int .i64 xg.owner, .slice pxg1 xg.waits.length kxg1, .slice pxg2 xg.queues.length kxg2]] z fun e w' => e = .returned (.bool gk) ∧ Below z.heap.size z w') := fun z hz => by rw [← hgk]; exact HIO.out _ _ xg z (Exg_29.out.stays (KV.out _ hz)).ow.at HXxg.out.len
  have OS : Hid (∀ z : World, (z.cell? ⟨Gxa, 0, none⟩ = some (.int .i64 xa.owner) ∧ z.cell? ⟨Gxa, 1, none⟩ = some (.slice pxa1 xa.waits.length kxa1) ∧ z.cell? ⟨Gxa, 2, none⟩ = some (.slice pxa2 xa.queues.length kxa2) ∧ z.cell? ⟨Gxb, 0, none⟩ = some (.int .i64 xa.owner) ∧ z.cell? ⟨Gxb, 1, none⟩ = some (.slice pxb1 xa.waits.length kxb1) ∧ z.cell? ⟨Gxb, 2, none⟩ = some (.slice pxb2 xa.queues.length kxb2) ∧ z.cell? ⟨Gxc, 0, none⟩ = some (.int .i64 xc.owner) ∧ z.cell? ⟨Gxc, 1, none⟩ = some (.slice pxc1 xc.waits.length kxc1) ∧ z.cell? ⟨Gxc, 2, none⟩ = some (.slice pxc2 xc.queues.length kxc2) ∧ z.cell? ⟨Gxd, 0, none⟩ = some (.int .i64 xc.owner) ∧ z.cell? ⟨Gxd, 1, none⟩ = some (.slice pxd1 xc.waits.length kxd1) ∧ z.cell? ⟨Gxd, 2, none⟩ = some (.slice pxd2 xc.queues.length kxd2) ∧ z.cell? ⟨Gxe, 0, none⟩ = some (.int .i64 xe.owner) ∧ z.cell? ⟨Gxe, 1, none⟩ = some (.slice pxe1 xe.waits.length kxe1) ∧ z.cell? ⟨Gxe, 2, none⟩ = some (.slice pxe2 xe.queues.length kxe2) ∧ z.cell? ⟨Gxf, 0, none⟩ = some (.int .i64 xe.owner) ∧ z.cell? ⟨Gxf, 1, none⟩ = some (.slice pxf1 xe.waits.length kxf1) ∧ z.cell? ⟨Gxf, 2, none⟩ = some (.slice pxf2 xe.queues.length kxf2) ∧ z.cell? ⟨Gxj, 0, none⟩ = some (.int .i64 xj.owner) ∧ z.cell? ⟨Gxj, 1, none⟩ = some (.slice pxj1 xj.waits.length kxj1) ∧ z.cell? ⟨Gxj, 2, none⟩ = some (.slice pxj2 xj.queues.length kxj2) ∧ z.cell? ⟨Gxl, 0, none⟩ = some (.int .i64 xj.owner) ∧ z.cell? ⟨Gxl, 1, none⟩ = some (.slice pxl1 xj.waits.length kxl1) ∧ z.cell? ⟨Gxl, 2, none⟩ = some (.slice pxl2 xj.queues.length kxl2) ∧ z.cell? ⟨Gxg, 0, none⟩ = some (.int .i64 xg.owner) ∧ z.cell? ⟨Gxg, 1, none⟩ = some (.slice pxg1 xg.waits.length kxg1) ∧ z.cell? ⟨Gxg, 2, none⟩ = some (.slice pxg2 xg.queues.length kxg2) ∧ Hid (Below Y28.heap.size Y28 z)) → Calls Try.prog 23 #[.agg #[.int .i64 xg.owner, .slice pxg1 xg.waits.length kxg1, .slice pxg2 xg.queues.length kxg2]] z fun e w' => e = .returned (.bool gk) ∧ Below z.heap.size z w') := fun z hz => by rw [← hgk]; exact specGateOk_any _ _ xg z (Exg_29.out.stays (KV.out _ hz)).ow.at HXxg.out.len
  have hgl : (gateNewE 2).queues.length = 2 := rfl
  have FG : ∀ (o : Int) (a b : Value) (w : World), (Instr.field 26 (.agg #[.int .i64 o, a, b]) 2).run Try.prog w = .ok b w := fun _ _ _ _ => by kernel_rfl
  go_wp2_with fail
  go_region_held3 (fun z => z.cell? ⟨Gxa, 0, none⟩ = some (.int .i64 xa.owner) ∧ z.cell? ⟨Gxa, 1, none⟩ = some (.slice pxa1 xa.waits.length kxa1) ∧ z.cell? ⟨Gxa, 2, none⟩ = some (.slice pxa2 xa.queues.length kxa2) ∧ z.cell? ⟨Gxb, 0, none⟩ = some (.int .i64 xa.owner) ∧ z.cell? ⟨Gxb, 1, none⟩ = some (.slice pxb1 xa.waits.length kxb1) ∧ z.cell? ⟨Gxb, 2, none⟩ = some (.slice pxb2 xa.queues.length kxb2) ∧ z.cell? ⟨Gxc, 0, none⟩ = some (.int .i64 xc.owner) ∧ z.cell? ⟨Gxc, 1, none⟩ = some (.slice pxc1 xc.waits.length kxc1) ∧ z.cell? ⟨Gxc, 2, none⟩ = some (.slice pxc2 xc.queues.length kxc2) ∧ z.cell? ⟨Gxd, 0, none⟩ = some (.int .i64 xc.owner) ∧ z.cell? ⟨Gxd, 1, none⟩ = some (.slice pxd1 xc.waits.length kxd1) ∧ z.cell? ⟨Gxd, 2, none⟩ = some (.slice pxd2 xc.queues.length kxd2) ∧ z.cell? ⟨Gxe, 0, none⟩ = some (.int .i64 xe.owner) ∧ z.cell? ⟨Gxe, 1, none⟩ = some (.slice pxe1 xe.waits.length kxe1) ∧ z.cell? ⟨Gxe, 2, none⟩ = some (.slice pxe2 xe.queues.length kxe2) ∧ z.cell? ⟨Gxf, 0, none⟩ = some (.int .i64 xe.owner) ∧ z.cell? ⟨Gxf, 1, none⟩ = some (.slice pxf1 xe.waits.length kxf1) ∧ z.cell? ⟨Gxf, 2, none⟩ = some (.slice pxf2 xe.queues.length kxf2) ∧ z.cell? ⟨Gxj, 0, none⟩ = some (.int .i64 xj.owner) ∧ z.cell? ⟨Gxj, 1, none⟩ = some (.slice pxj1 xj.waits.length kxj1) ∧ z.cell? ⟨Gxj, 2, none⟩ = some (.slice pxj2 xj.queues.length kxj2) ∧ z.cell? ⟨Gxl, 0, none⟩ = some (.int .i64 xj.owner) ∧ z.cell? ⟨Gxl, 1, none⟩ = some (.slice pxl1 xj.waits.length kxl1) ∧ z.cell? ⟨Gxl, 2, none⟩ = some (.slice pxl2 xj.queues.length kxl2) ∧ z.cell? ⟨Gxg, 0, none⟩ = some (.int .i64 xg.owner) ∧ z.cell? ⟨Gxg, 1, none⟩ = some (.slice pxg1 xg.waits.length kxg1) ∧ z.cell? ⟨Gxg, 2, none⟩ = some (.slice pxg2 xg.queues.length kxg2) ∧ Hid (Below Y28.heap.size Y28 z)) (first | exact K0.out | exact KP.out _ _ (by assumption) hb0_ | exact KP.out _ _ (by assumption) hb1_ | exact KP.out _ _ (by assumption) hb2_ | exact KP.out _ _ (by assumption) hb3_ | exact KP.out _ _ (by assumption) hb4_ | exact KP.out _ _ (by assumption) hb5_ | exact KP.out _ _ (by assumption) hb6_)
    (first
      | (go_at_call 14; with_reducible refine (SA0.out _ (by assumption)).mono ?_; rintro e w0_ ⟨rfl, hb0_⟩)
      | (go_at_call 14; with_reducible refine (SA1.out _ (by assumption)).mono ?_; rintro e w1_ ⟨rfl, hb1_⟩)
      | (go_at_call 14; with_reducible refine (SA2.out _ (by assumption)).mono ?_; rintro e w2_ ⟨rfl, hb2_⟩)
      | (go_at_call 14; with_reducible refine (SA3.out _ (by assumption)).mono ?_; rintro e w3_ ⟨rfl, hb3_⟩)
      | (go_at_call 11; with_reducible refine (OI.out _ (by assumption)).mono ?_; rintro e w4_ ⟨rfl, hb4_⟩)
      | (go_at_call 23; with_reducible refine (OS.out _ (by assumption)).mono ?_; rintro e w5_ ⟨rfl, hb5_⟩)
      | (go_at_call 24; refine (HIN.out 2 _).mono ?_; rintro e w6_ ⟨n1, n2, rfl, ho6, hb6_⟩; obtain ⟨on2, cn2, rfl⟩ := form_own ho6.o2; clear ho6)
    )
  all_goals go_wp2
  all_goals go_ret
  all_goals exact ⟨rfl, BB_29.out.trans ((KV.out _ (by assumption)).mono BB_29.out.size)⟩
end Go.Proofs.Ytbikdpljhnhcaaa
