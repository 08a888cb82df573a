/-
  The law FnCores: a drawn core does one word, over what the program answers.
-/
import Derived.Test.YtmchgmpdhfefjaaCorQ
import Derived.Test.YtmchgmpdhfefjaaFlG
import Derived.Test.YtmchgmpdhfefjaaCorZ
import Derived.Test.YtmchgmpdhfefjaaDrwU
namespace Go.Proofs.Ytmchgmpdhfefjaa
open Go.RowKit

/-- What StepCore of the program answers. -/
def ImpStepCore : Prop := ∀ (v tv mv : Value) (x : Co) (text mem : List Int) (w : World), CoAt w v x → CoLen x → IntsAt w tv text → text.length ≤ 1048576 → IntsAt w mv mem → mem.length ≤ 1048576 →
    Calls Try.prog 7 #[.agg #[v, .int .i64 x.pc, .int .i64 x.process], tv, mv] w fun e w' => ∃ r m, e = .returned (.tuple #[.agg #[r, .int .i64 (stepE x text mem).1.pc, .int .i64 (stepE x text mem).1.process], m, .int .i64 (stepE x text mem).2.2]) ∧ CoOwn w.heap.size w' r (stepE x text mem).1 ∧ RiOwn w.heap.size w' m ⟨(stepE x text mem).2.1⟩ ∧ (∀ i, r.ownBlock = some i → m.ownBlock ≠ some i) ∧ Below w.heap.size w w'

/-- How things stand: a core in a box, its numbers in a row. -/
structure CbZ (G : Nat) (v : Value) (x : Co) (z : World) : Prop where
  bO : Box z G #[v, .int .i64 x.pc, .int .i64 x.process] 26
  row : CoAt z v x
theorem CbZ.stays {G : Nat} {v : Value} {x : Co} {z z' : World} (h : CbZ G v x z) (hb : Below z.heap.size z z') : CbZ G v x z' := ⟨h.bO.stays hb, h.row.stays hb⟩
theorem CbZ.made {v : Value} {x : Co} {z : World} (h : CoAt z v x) : CbZ z.heap.size v x (z.alloc (.cells #[v, .int .i64 x.pc, .int .i64 x.process] 26)) :=
  ⟨Box.made _ _ _, h.stays ((Below.refl _ _).alloc (Nat.le_refl _) _)⟩
theorem slice_of {w : World} {v : Value} {xs : List Int} (h : IntsAt w v xs) : ∃ ao n c, v = .slice ao n c := by
  obtain ⟨ao, c, e, _⟩ := h
  exact ⟨ao, _, c, e⟩

theorem slice_len {w : World} {a : Option Addr} {n c : Nat} {xs : List Int} (h : IntsAt w (.slice a n c) xs) : n = xs.length := by
  obtain ⟨ao, c', e, _⟩ := h
  injection e
/-- A row's cell, wherever the row begins. -/
theorem row_at {w : World} {a : Option Addr} {n c : Nat} {xs : List Int} (h : IntsAt w (.slice a n c) xs) (i : Nat) (hi : i < n) : ∃ b, a = some b ∧ w.cell? (b.add i) = some (.int .i64 (xs.getD i 0)) := by
  obtain ⟨ao, c', e, hx⟩ := h
  injection e with e1 e2 e3
  subst e1
  obtain ⟨b, h1, _, h2⟩ := hx i (by omega)
  exact ⟨b, h1, by rw [h2, List.getD_eq_getElem?_getD, List.getElem?_eq_getElem (by omega)]; rfl⟩

set_option maxRecDepth 100000 in
set_option maxHeartbeats 16000000 in
theorem lawCores (IS : ImpStepCore) (w : World) (v : Value) (n : Nat) (H : CodeAt w w.heap.size v n) :
    Calls Try.prog 3 #[v] w fun e w' => e = .returned (.bool true) ∧ Below w.heap.size w w' := by
  have HIS := hide IS
  clear IS
  obtain ⟨ao, c9, rfl⟩ := H.slice
  have BG := fun z => hide (big_any z ao n c9)
  by_cases hn : n ≤ 1048576
  case neg =>
    have eb : decide (1048576 < n) = true := decide_eq_true (by omega)
    simp only [eb] at BG
    clear eb
    go_enter Try.func3, Try.ntmps3
    go_wp2_with (go_at_call 5; refine (unhide (BG _)).mono ?_; rintro e z ⟨rfl, rfl⟩)
    go_ret
    exact ⟨rfl, Below.refl _ _⟩
  have eb : decide (1048576 < n) = false := decide_eq_false (by omega)
  simp only [eb] at BG
  clear eb
  have HD := hide (drawStepCore_any w w.heap.size _ n hn H (Nat.le_refl _))
  clear H
  go_enter Try.func3, Try.ntmps3
  go_wp2_with (first | (go_at_call 5; refine (unhide (BG _)).mono ?_; rintro e z ⟨rfl, rfl⟩) | fail)
  refine (unhide HD).mono ?_
  rintro e z1 ⟨rv, x, tv, text, mv, mem, rfl, hx, hx8, ht, ht8, hm, hm30, hb⟩
  have HX := hide (show CoAt z1 rv x from ⟨hx.at⟩)
  have HT := hide ht.at
  have HM := hide hm.at
  have HB := hide hb
  obtain ⟨a0, n0, c0, rfl⟩ := slice_of hx.at
  obtain ⟨at_, nt, ct, rfl⟩ := slice_of ht.at
  obtain ⟨am, nm, cm, rfl⟩ := slice_of hm.at
  clear hx ht hm hb BG HD
  have hal : Below z1.heap.size z1 (z1.alloc (.cells #[.slice a0 n0 c0, .int .i64 x.pc, .int .i64 x.process] 26)) := (Below.refl _ _).alloc (Nat.le_refl _) _
  have X1 := hide (CbZ.made HX.out)
  have T1 := hide (HT.out.stays hal)
  have M1 := hide (HM.out.stays hal)
  have B1 := hide (HB.out.trans (hal.mono HB.out.size))
  obtain ⟨Y1, hY⟩ : ∃ Z, z1.alloc (.cells #[.slice a0 n0 c0, .int .i64 x.pc, .int .i64 x.process] 26) = Z := ⟨_, rfl⟩
  obtain ⟨G1, hG⟩ : ∃ G, z1.heap.size = G := ⟨_, rfl⟩
  have HY := hide hY
  have HG := hide hG
  rw [hY] at X1 T1 M1 B1
  rw [hG] at X1
  clear hY hG hal HX HT HM HB
  go_upto_region 4 with fail
  rw [HY.out, HG.out]
  clear HY HG
  have s0 := Lib.cell_of_heap X1.out.bO 0
  have s1 := Lib.cell_of_heap X1.out.bO 1
  have s2 := Lib.cell_of_heap X1.out.bO 2
  simp at s0 s1 s2
  go_wp2_with fail
  refine (HIS.out _ _ _ x text mem _ X1.out.row ⟨by omega⟩ T1.out (by omega) M1.out (by omega)).mono ?_
  rintro e z2 ⟨r, m, rfl, hor, hom, _, hb⟩
  obtain ⟨y, ey⟩ : ∃ y, (stepE x text mem).1 = y := ⟨_, rfl⟩
  obtain ⟨mm, em⟩ : ∃ mm, (stepE x text mem).2.1 = mm := ⟨_, rfl⟩
  obtain ⟨N, eN⟩ : ∃ N, (stepE x text mem).2.2 = N := ⟨_, rfl⟩
  have hR : CoAt z2 r y := by rw [← ey]; exact hor.at
  have hM : IntsAt z2 m mm := by rw [← em]; exact hom.at.a0
  have HN8 := hide (stepE_no x text mem)
  have HY8 := hide (stepE_yes x text mem)
  have HL8 := hide (stepE_len x text mem)
  have HR8 := hide (stepE_regs x text mem)
  have HSS := fun z v tv mv h1 h2 h3 => hide (specStepCore_any v tv mv x text mem z h1 ⟨by omega⟩ h2 (by omega) h3 (by omega))
  rw [ey, em, eN] at HN8 HY8
  rw [em] at HL8
  rw [ey] at HR8
  simp only [ey, em, eN] at HSS
  rw [ey, eN]
  obtain ⟨a2, n2, c2, rfl⟩ := slice_of hR.a0
  obtain ⟨am2, nm2, cm2, rfl⟩ := slice_of hM
  have hal : Below z2.heap.size z2 (z2.alloc (.cells #[.slice a2 n2 c2, .int .i64 y.pc, .int .i64 y.process] 26)) := (Below.refl _ _).alloc (Nat.le_refl _) _
  have hb2 := hb.trans (hal.mono hb.size)
  have X2 := hide (X1.out.stays hb2)
  have T2 := hide (T1.out.stays hb2)
  have M2 := hide (M1.out.stays hb2)
  have A2 := hide (CbZ.made hR)
  have N2 := hide (hM.stays hal)
  have B2 := hide (B1.out.trans (hb2.mono B1.out.size))
  obtain ⟨Y2, hY⟩ : ∃ Z, z2.alloc (.cells #[.slice a2 n2 c2, .int .i64 y.pc, .int .i64 y.process] 26) = Z := ⟨_, rfl⟩
  obtain ⟨G2, hG⟩ : ∃ G, z2.heap.size = G := ⟨_, rfl⟩
  have HY := hide hY
  have HG := hide hG
  rw [hY] at X2 T2 M2 B2 A2 N2
  rw [hG] at A2
  clear hY hG hal hb2 hR hM hb hor hom ey em eN X1 T1 M1 B1 s0 s1 s2 HIS
  go_upto_region 5 with fail
  rw [HY.out, HG.out]
  clear HY HG
  have s0 := Lib.cell_of_heap X2.out.bO 0
  have s1 := Lib.cell_of_heap X2.out.bO 1
  have s2 := Lib.cell_of_heap X2.out.bO 2
  simp at s0 s1 s2
  go_wp2_with fail
  refine (unhide (HSS _ _ _ _ X2.out.row T2.out M2.out)).mono ?_
  rintro e z3 ⟨r3, m3, rfl, hor, hom, _, hb⟩
  have hR := hor.at
  have hM : IntsAt z3 m3 mm := hom.at.a0
  obtain ⟨a3, n3, c3, rfl⟩ := slice_of hR.a0
  obtain ⟨am3, nm3, cm3, rfl⟩ := slice_of hM
  have hal : Below z3.heap.size z3 (z3.alloc (.cells #[.slice a3 n3 c3, .int .i64 y.pc, .int .i64 y.process] 26)) := (Below.refl _ _).alloc (Nat.le_refl _) _
  have hb2 := hb.trans (hal.mono hb.size)
  have X3 := hide (X2.out.stays hb2)
  have T3 := hide (T2.out.stays hb2)
  have M3 := hide (M2.out.stays hb2)
  have A3 := hide (A2.out.stays hb2)
  have N3 := hide (N2.out.stays hb2)
  have D3 := hide (CbZ.made hR)
  have E3 := hide (hM.stays hal)
  have B3 := hide (B2.out.trans (hb2.mono B2.out.size))
  obtain ⟨Y3, hY⟩ : ∃ Z, z3.alloc (.cells #[.slice a3 n3 c3, .int .i64 y.pc, .int .i64 y.process] 26) = Z := ⟨_, rfl⟩
  obtain ⟨G3, hG⟩ : ∃ G, z3.heap.size = G := ⟨_, rfl⟩
  have HY := hide hY
  have HG := hide hG
  rw [hY] at X3 T3 M3 B3 A3 N3 D3 E3
  rw [hG] at D3
  clear hY hG hal hb2 hR hM hb hor hom X2 T2 M2 B2 A2 N2 s0 s1 s2 HSS
  go_upto_region 6 with fail
  rw [HY.out, HG.out]
  clear HY HG
  have s0 := Lib.cell_of_heap A3.out.bO 0
  have s1 := Lib.cell_of_heap A3.out.bO 1
  have s2 := Lib.cell_of_heap A3.out.bO 2
  have t0 := Lib.cell_of_heap D3.out.bO 0
  have t1 := Lib.cell_of_heap D3.out.bO 1
  have t2 := Lib.cell_of_heap D3.out.bO 2
  simp at s0 s1 s2 t0 t1 t2
  go_wp2_with fail
  refine (sameCore_same _ _ y _ A3.out.row D3.out.row ⟨by rw [HR8.out]; omega⟩).mono ?_
  rintro e z4 ⟨rfl, hb⟩
  have X4 := hide (X3.out.stays hb)
  have T4 := hide (T3.out.stays hb)
  have M4 := hide (M3.out.stays hb)
  have A4 := hide (A3.out.stays hb)
  have N4 := hide (N3.out.stays hb)
  have E4 := hide (E3.out.stays hb)
  have B4 := hide (B3.out.trans (hb.mono B3.out.size))
  clear hb X3 T3 M3 A3 N3 E3 B3 D3 s0 s1 s2 t0 t1 t2
  go_wp2_with fail
  refine (sameIntsG_same _ _ mm _ N4.out E4.out (by rw [HL8.out]; omega)).mono ?_
  rintro e z5 ⟨rfl, hb⟩
  have X5 := hide (X4.out.stays hb)
  have T5 := hide (T4.out.stays hb)
  have M5 := hide (M4.out.stays hb)
  have A5 := hide (A4.out.stays hb)
  have N5 := hide (N4.out.stays hb)
  have B5 := hide (B4.out.trans (hb.mono B4.out.size))
  have e1 : nm2 = mm.length := slice_len N4.out
  have e2 : nm = mem.length := slice_len M4.out
  obtain rfl : nm2 = nm := by rw [e1, e2]; exact HL8.out
  clear hb X4 T4 M4 A4 N4 B4 E4 e1
  have E2 := hide e2
  have hnm : nm2 ≤ 30 := by omega
  clear e2
  by_cases hN : N = 0 ∨ N = 10
  case neg =>
    have h0 : N ≠ 0 := fun h => hN (Or.inl h)
    have h1 : N ≠ 10 := fun h => hN (Or.inr h)
    obtain ⟨rfl, rfl⟩ := HN8.out h0 h1
    have b0 : (N != 0) = true := by simpa using h0
    have b1 : (N != 10) = true := by simpa using h1
    clear hN HN8 HY8 HR8 HL8
    have s0 := Lib.cell_of_heap A5.out.bO 0
    have s1 := Lib.cell_of_heap A5.out.bO 1
    have s2 := Lib.cell_of_heap A5.out.bO 2
    have t0 := Lib.cell_of_heap X5.out.bO 0
    have t1 := Lib.cell_of_heap X5.out.bO 1
    have t2 := Lib.cell_of_heap X5.out.bO 2
    simp at s0 s1 s2 t0 t1 t2
    go_wp2_with fail
    refine (sameCore_same _ _ _ _ A5.out.row X5.out.row ⟨by omega⟩).mono ?_
    rintro e z6 ⟨rfl, hb⟩
    have M6 := hide (M5.out.stays hb)
    have N6 := hide (N5.out.stays hb)
    have B6 := hide (B5.out.trans (hb.mono B5.out.size))
    clear hb X5 T5 M5 A5 N5 B5 s0 s1 s2 t0 t1 t2
    go_wp2_with fail
    refine (sameIntsG_same _ _ _ _ N6.out M6.out (by omega)).mono ?_
    rintro e z7 ⟨rfl, hb⟩
    have B7 := hide (B6.out.trans (hb.mono B6.out.size))
    clear hb
    go_wp2
    go_ret
    exact ⟨rfl, B7.out⟩
  have OK := hide (HY8.out hN)
  obtain ⟨i, ei⟩ : ∃ i, decE (text.getD x.pc.toNat 0) = i := ⟨_, rfl⟩
  rw [ei] at OK
  have hpc := OK.out.pc
  have hnt : nt = text.length := slice_len T5.out
  obtain ⟨pn, hpn⟩ : ∃ pn : Nat, x.pc = (pn : Int) := ⟨x.pc.toNat, by omega⟩
  obtain ⟨bt, rfl, hct⟩ := row_at T5.out pn (by omega)
  have et : text.getD x.pc.toNat 0 = text.getD pn 0 := by rw [hpn]; rfl
  obtain ⟨wd, ew⟩ : ∃ wd, text.getD pn 0 = wd := ⟨_, rfl⟩
  rw [et, ew] at ei
  rw [ew] at hct
  have hpl : pn < nt := by omega
  have CD := fun z => hide (specDecode_any wd z)
  simp only [ei] at CD
  clear HY8 HN8 et ew ei hnt
  have t0 := Lib.cell_of_heap X5.out.bO 0
  have t1 := Lib.cell_of_heap X5.out.bO 1
  have t2 := Lib.cell_of_heap X5.out.bO 2
  simp at t0 t1 t2
  rw [hpn] at t1
  have HN := hide hN
  have HPN := hide hpn
  clear hpc hpn
  rcases hN with rfl | rfl
  all_goals (
    go_wp2_with fail
    refine (unhide (CD _)).mono ?_
    rintro e z6 ⟨rfl, hb⟩
    have hal : Below z6.heap.size z6 (z6.alloc (.cells #[.int .i64 i.op, .int .i64 i.a, .int .i64 i.b, .int .i64 i.c] 34)) := (Below.refl _ _).alloc (Nat.le_refl _) _
    have hb2 := hb.trans (hal.mono hb.size)
    have X6 := hide (X5.out.stays hb2)
    have M6 := hide (M5.out.stays hb2)
    have A6 := hide (A5.out.stays hb2)
    have N6 := hide (N5.out.stays hb2)
    have B6 := hide (B5.out.trans (hb2.mono B5.out.size))
    have I6 := hide (Box.made z6 #[.int .i64 i.op, .int .i64 i.a, .int .i64 i.b, .int .i64 i.c] 34)
    obtain ⟨Y6, hY⟩ : ∃ Z, z6.alloc (.cells #[.int .i64 i.op, .int .i64 i.a, .int .i64 i.b, .int .i64 i.c] 34) = Z := ⟨_, rfl⟩
    obtain ⟨G6, hG⟩ : ∃ G, z6.heap.size = G := ⟨_, rfl⟩
    have HY := hide hY
    have HG := hide hG
    rw [hY] at X6 M6 B6 A6 N6 I6
    rw [hG] at I6
    clear hY hG hal hb2 hb X5 T5 M5 A5 N5 B5 t0 t1 t2 hct CD
    go_upto_region 11 with fail
    rw [HY.out, HG.out]
    clear HY HG
    have KB : Hid (∀ z, Below Y6.heap.size Y6 z → CbZ G1 (.slice a0 n0 c0) x z ∧ CbZ G2 (.slice a2 n2 c2) y z ∧ IntsAt z (.slice am2 nm2 cm2) mm ∧ IntsAt z (.slice am nm2 cm) mem ∧ Box z G6 #[.int .i64 i.op, .int .i64 i.a, .int .i64 i.b, .int .i64 i.c] 34 ∧ Below w.heap.size w z) := hide fun z h => ⟨X6.out.stays h, A6.out.stays h, N6.out.stays h, M6.out.stays h, I6.out.stays h, B6.out.trans (h.mono B6.out.size)⟩
    clear X6 M6 B6 A6 N6 I6 HN HL8 HR8 hpl
    go_wp2_with fail
    go_loopw [14] (fun iv wr => ∃ k : Nat, k ≤ nm2 ∧ iv = .int .i64 (k : Int) ∧ Hid (Below Y6.heap.size Y6 wr)) (fun iv _ => nm2 - (intOf iv).toNat)
    case atStart => exact ⟨0, Nat.zero_le _, rfl, hide (Below.refl _ _)⟩
    case round =>
      obtain ⟨k, hk, rfl, HW⟩ := hrel
      by_cases hlt : k < nm2
      · have hlt' : (k : Int) < (nm2 : Int) := by omega
        obtain ⟨_, _, hm1, hm2, hi6, _⟩ := KB.out _ HW.out
        obtain ⟨b1, rfl, q1⟩ := row_at hm1 k hlt
        obtain ⟨b2, rfl, q2⟩ := row_at hm2 k hlt
        have i0 := Lib.cell_of_heap hi6 0
        have i3 := Lib.cell_of_heap hi6 3
        simp at i0 i3
        have HD : ∀ nq, Hid (Below Y6.heap.size Y6 (wr.drewN nq)) := fun nq => hide (HW.out.trans ⟨rfl, rfl, rfl, Nat.le_refl _, fun _ _ => rfl⟩)
        have hch := OK.out.mem k
        obtain ⟨v1, e1⟩ : ∃ v1, mm.getD k 0 = v1 := ⟨_, rfl⟩
        obtain ⟨v2, e2⟩ : ∃ v2, mem.getD k 0 = v2 := ⟨_, rfl⟩
        rw [e1] at q1 hch
        rw [e2] at q2 hch
        clear hm1 hm2 hi6 e1 e2
        by_cases hv : v1 = v2
        · subst hv
          clear hch
          go_wp2_with fail
          go_quiet (fail)
          go_wp2
          go_roundw
          case rel => exact ⟨k + 1, by omega, by go_num, HD _⟩
          case measure => simp [intOf]; omega
        · obtain ⟨h1, h2⟩ := hch hv
          have hv' : (v1 == v2) = false := by simpa using hv
          clear hch
          rw [← h1] at i3
          rcases h2 with h2 | h2
          all_goals (
            rw [h2] at i0
            clear h1 h2
            go_wp2_with fail
            go_quiet (fail)
            go_wp2
            go_roundw
            case rel => exact ⟨k + 1, by omega, by go_num, HD _⟩
            case measure => simp [intOf]; omega)
      · have hlt' : ¬ (k : Int) < (nm2 : Int) := by omega
        clear hlt
        go_wp2_with fail
        go_loopw [15] (fun iv wr => ∃ k : Nat, k ≤ 8 ∧ iv = .int .i64 (k : Int) ∧ Hid (Below Y6.heap.size Y6 wr)) (fun iv _ => 8 - (intOf iv).toNat)
        case atStart => exact ⟨0, Nat.zero_le _, rfl, HW⟩
        case round =>
          clear HW hlt' hk
          obtain ⟨k, hk, rfl, HW⟩ := hrel
          by_cases hlt : k < 8
          · have hlt' : (k : Int) < 8 := by omega
            obtain ⟨hb1, hb2, _, _, hi6, _⟩ := KB.out _ HW.out
            have l1 : n2 = y.regs.length := slice_len hb2.row.a0
            have l2 : n0 = x.regs.length := slice_len hb1.row.a0
            rw [OK.out.y8] at l1
            rw [OK.out.n8] at l2
            subst l1 l2
            obtain ⟨b1, rfl, q1⟩ := row_at hb2.row.a0 k hlt
            obtain ⟨b2, rfl, q2⟩ := row_at hb1.row.a0 k hlt
            have i1 := Lib.cell_of_heap hi6 1
            have g1 := Lib.cell_of_heap hb1.bO 0
            have g2 := Lib.cell_of_heap hb2.bO 0
            simp at i1 g1 g2
            have HD : ∀ nq, Hid (Below Y6.heap.size Y6 (wr.drewN nq)) := fun nq => hide (HW.out.trans ⟨rfl, rfl, rfl, Nat.le_refl _, fun _ _ => rfl⟩)
            have hch := OK.out.reg k
            obtain ⟨v1, e1⟩ : ∃ v1, y.regs.getD k 0 = v1 := ⟨_, rfl⟩
            obtain ⟨v2, e2⟩ : ∃ v2, x.regs.getD k 0 = v2 := ⟨_, rfl⟩
            rw [e1] at q1 hch
            rw [e2] at q2 hch
            clear hb1 hb2 hi6 e1 e2
            by_cases hv : v1 = v2
            · subst hv
              clear hch
              go_wp2_with fail
              go_quiet (fail)
              go_wp2
              go_roundw
              case rel => exact ⟨k + 1, by omega, by go_num, HD _⟩
              case measure => simp [intOf]; omega
            · have h1 := hch hv
              have hv' : (v1 == v2) = false := by simpa using hv
              clear hch
              rw [← h1] at i1
              clear h1
              go_wp2_with fail
              go_quiet (fail)
              go_wp2
              go_roundw
              case rel => exact ⟨k + 1, by omega, by go_num, HD _⟩
              case measure => simp [intOf]; omega
          · have hlt' : ¬ (k : Int) < 8 := by omega
            clear hlt
            obtain ⟨hb1, hb2, _, _, hi6, hbf⟩ := KB.out _ HW.out
            have HF := hide hbf
            have i0 := Lib.cell_of_heap hi6 0
            have i3 := Lib.cell_of_heap hi6 3
            have g1 := Lib.cell_of_heap hb1.bO 1
            have g2 := Lib.cell_of_heap hb2.bO 1
            simp at i0 i3 g1 g2
            rw [HPN.out] at g1
            have hto := OK.out.to
            rw [HPN.out] at hto
            have hpn : pn ≤ 8 := by have := OK.out.pc; have := HPN.out; omega
            clear hb1 hb2 hi6 hbf HW KB HPN OK
            obtain ⟨p1, ep⟩ : ∃ p1, y.pc = p1 := ⟨_, rfl⟩
            rw [ep] at g2 hto
            clear ep
            by_cases h1 : p1 = (pn : Int) + 1
            · subst h1
              clear hto
              go_wp2
              go_ret
              exact ⟨rfl, HF.out⟩
            · have h1' : (p1 == (pn : Int) + 1) = false := by simpa using h1
              rcases hto with h2 | ⟨h2, h3⟩
              · exact absurd h2 h1
              · rw [← h3] at i3
                rcases h2 with h2 | h2
                all_goals (
                  rw [h2] at i0
                  clear h2 h3
                  go_wp2
                  go_ret
                  exact ⟨rfl, HF.out⟩))
end Go.Proofs.Ytmchgmpdhfefjaa
