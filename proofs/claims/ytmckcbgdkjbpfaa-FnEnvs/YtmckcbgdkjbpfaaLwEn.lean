/-
  Walks: the law of drawn Envs.
-/
import Derived.Test.YtmckcbgdkjbpfaaEnvQ
import Derived.Test.YtmckcbgdkjbpfaaEniP
import Derived.Test.YtmckcbgdkjbpfaaEniC
import Derived.Deep.RegionHeld3
namespace Go.Proofs.Ytmckcbgdkjbpfaa
open Go.RowKit

theorem EvOwn.c {B : Nat} {w : World} {v0 v1 : Value} {x : Ev} (h : EvOwn B w v0 v1 x) : EvC B w [v0, v1] x := ⟨v0, v1, rfl, CellsIn.own h.o0, CellsIn.own h.o1⟩
/-- An Env in a box of the law's own. -/
structure EB (B : Nat) (z : World) (G : Nat) (x : Ev) (v0 v1 : Value) : Prop where
  bx : Box z G #[v0, v1] 27
  ow : EvOwn B z v0 v1 x
theorem EB.stays {B : Nat} {z z' : World} {G : Nat} {x : Ev} {v0 v1 : Value} (h : EB B z G x v0 v1) (hb : Below z.heap.size z z') : EB B z' G x v0 v1 := ⟨h.bx.stays hb, h.ow.stays hb⟩
theorem EB.made {B : Nat} {z : World} {x : Ev} {v0 v1 : Value} (h : EvOwn B z v0 v1 x) : EB B (z.alloc (.cells #[v0, v1] 27)) z.heap.size x v0 v1 := ⟨Box.made _ _ _, h.stays ((Below.refl _ _).alloc (Nat.le_refl _) _)⟩

theorem made_ahead {b : Nat} {z2 z3 : World} {y : Ev} {u0 u1 : Value} (hw : b ≤ z2.heap.size) (ho : EvOwn ((z2.alloc (.cells #[.slice none 0 0, .slice none 0 0] 27)).drew.drew).heap.size z3 u0 u1 y) (hb : Below ((z2.alloc (.cells #[.slice none 0 0, .slice none 0 0] 27)).drew.drew).heap.size ((z2.alloc (.cells #[.slice none 0 0, .slice none 0 0] 27)).drew.drew) z3) :
    EB b ((z3.setCell ⟨z2.heap.size, 0, none⟩ u0).setCell ⟨z2.heap.size, 1, none⟩ u1) z2.heap.size y u0 u1 ∧ Below z2.heap.size z2 ((z3.setCell ⟨z2.heap.size, 0, none⟩ u0).setCell ⟨z2.heap.size, 1, none⟩ u1) := by
  have hs : ((z2.alloc (.cells #[.slice none 0 0, .slice none 0 0] 27)).drew.drew).heap.size = z2.heap.size + 1 := by simp [World.drew]
  have h1 : Below z2.heap.size z2 ((z2.alloc (.cells #[.slice none 0 0, .slice none 0 0] 27)).drew.drew) := (((Below.refl _ _).alloc (Nat.le_refl _) _).drew).drew
  have hbx : Box z3 z2.heap.size #[.slice none 0 0, .slice none 0 0] 27 := (((Box.made z2 _ _).stays ((Below.refl _ _).drew)).stays ((Below.refl _ _).drew)).stays hb
  obtain ⟨W, eW, hB, hO, hF, _⟩ := env_fin (w := z2) (R := z2.heap.size) ⟨_, _, hbx⟩ ho (h1.trans (hb.mono (by rw [hs]; omega))) (Nat.le_refl _) (by rw [hs]; omega)
  rw [eW]
  exact ⟨⟨hB, hO.lo (by omega)⟩, hF⟩
theorem made_behind {b : Nat} {z2 z3 : World} {y : Ev} {u0 u1 : Value} (hw : b ≤ z2.heap.size) (ho : EvOwn (z2.drew.drew).heap.size z3 u0 u1 y) (hb : Below (z2.drew.drew).heap.size (z2.drew.drew) z3) :
    EB b (z3.alloc (.cells #[u0, u1] 27)) z3.heap.size y u0 u1 ∧ Below z2.heap.size z2 (z3.alloc (.cells #[u0, u1] 27)) := by
  have h1 : Below z2.heap.size z2 z3 := (((Below.refl z2.heap.size z2).drew).drew).trans hb
  exact ⟨EB.made (ho.lo hw), h1.alloc h1.size _⟩

set_option maxRecDepth 100000 in
set_option maxHeartbeats 8000000 in
theorem lawEnvs (IT : ∀ (x0 x1 : Ev), szEv x0 + szEv x1 ≤ 1048576 → ∀ (v0_0 v0_1 v1_0 v1_1 : Value) (z : World) (b0 b1 : Nat), EvC b0 z [v0_0, v0_1] x0 → EvC b1 z [v1_0, v1_1] x1 → Calls Try.prog 17 #[.agg #[v0_0, v0_1], .agg #[v1_0, v1_1]] z fun e w' => ∃ r0_0 r0_1, e = .returned (.agg #[r0_0, r0_1]) ∧ EvOwn z.heap.size w' r0_0 r0_1 (togE x0 x1) ∧ Below z.heap.size z w')
    (w : World) (v : Value) (n : Nat) (H : CodeAt w w.heap.size v n) :
    Calls Try.prog 4 #[v] w fun e w' => e = .returned (.bool true) ∧ Below w.heap.size w w' := by
  have HIT := hide IT
  clear IT
  obtain ⟨ao, c, rfl⟩ := H.slice
  have BG := fun z => hide (big_any z ao n c)
  by_cases hn : n ≤ 1048576
  case neg =>
    have eb : decide (1048576 < n) = true := decide_eq_true (by omega)
    simp only [eb] at BG
    clear eb
    go_enter Try.func4, Try.ntmps4
    go_wp2_with (go_at_call 12; refine (unhide (BG _)).mono ?_; rintro e z ⟨rfl, rfl⟩)
    go_ret
    exact ⟨rfl, Below.refl _ _⟩
  have eb : decide (1048576 < n) = false := decide_eq_false (by omega)
  simp only [eb] at BG
  clear eb
  have HC : Hid (∀ z, Below w.heap.size w z → CodeAt z w.heap.size (.slice ao n c) n) := fun z h => H.below h
  clear H
  go_enter Try.func4, Try.ntmps4
  go_wp2_with (first | (go_at_call 12; refine (unhide (BG _)).mono ?_; rintro e z ⟨rfl, rfl⟩) | fail)
  refine (drawEnv w w.heap.size _ n hn (HC.out _ (Below.refl _ _)) (Nat.le_refl _)).mono ?_
  rintro e z1 ⟨e0, e1, x, k, rfl, ho1, hd1, hk1, hb1⟩
  obtain ⟨p0, k0, rfl⟩ := form_own ho1.o0
  obtain ⟨p1, k1, rfl⟩ := form_own ho1.o1
  have E1 := hide (EB.made ho1)
  have HD := hide hd1
  have B1 : Hid (Below w.heap.size w (z1.alloc (.cells #[.slice p0 x.names.length k0, .slice p1 x.vals.length k1] 27))) := hb1.alloc hb1.size _
  clear ho1 hd1 hb1
  obtain ⟨Z1, hZ1⟩ : ∃ Z, z1.alloc (.cells #[.slice p0 x.names.length k0, .slice p1 x.vals.length k1] 27) = Z := ⟨_, rfl⟩
  obtain ⟨E, hE⟩ : ∃ E, z1.heap.size = E := ⟨_, rfl⟩
  have HZ1 := hide hZ1
  have HE := hide hE
  rw [hZ1, hE] at E1
  rw [hZ1] at B1
  clear hZ1 hE
  go_wp2_with fail
  rw [HZ1.out, HE.out]
  refine (places_any Z1 w.heap.size _ n hn (HC.out _ B1.out) B1.out.size).mono ?_
  rintro e z2 ⟨pv, xs, rfl, hl12, hx12, ho2, hb2⟩
  obtain ⟨gp, cap, rfl, hgp, hpc⟩ := row12 hl12 ho2
  have E2 := hide (E1.out.stays hb2)
  have B2 := hide (B1.out.trans (hb2.mono B1.out.size))
  have HPC : Hid (∀ z, Below z2.heap.size z2 z → z.cell? ⟨gp, 0, none⟩ = some (.int .i64 (xs[0] : Int)) ∧ z.cell? ⟨gp, 1, none⟩ = some (.int .i64 (xs[1] : Int))) := fun z hz => ⟨(hz.cell (p := ⟨gp, 0, none⟩) hgp).trans (hpc 0 (by omega)), (hz.cell (p := ⟨gp, 1, none⟩) hgp).trans (hpc 1 (by omega))⟩
  have hx0 := hx12 xs[0] (List.getElem_mem _)
  have hx1 := hx12 xs[1] (List.getElem_mem _)
  obtain ⟨q0, hq0⟩ : ∃ q, xs[0] = q := ⟨_, rfl⟩
  obtain ⟨q1, hq1⟩ : ∃ q, xs[1] = q := ⟨_, rfl⟩
  rw [hq0] at hx0
  rw [hq1] at hx1
  rw [hq0, hq1] at HPC
  clear hq0 hq1 hpc ho2 hb2 hx12 hl12 E1 B1 HZ1 HE
  have hkl := HD.out.len
  have hkv := HD.out.v
  have hk5 := HD.out.le
  have HKL := hide hkl
  have HKV := hide hkv
  rw [hkl, hkv] at E2 ⊢
  clear hkl hkv
  have hne : ¬ k = 0 := by omega
  obtain ⟨i0, hi0⟩ : ∃ i, q0 % k = i := ⟨_, rfl⟩
  have hi0k : i0 < k := by rw [← hi0]; exact Nat.mod_lt _ (by omega)
  have hrem : (q0 : Int) % (k : Int) = (i0 : Int) := by rw [← hi0]; exact (Int.natCast_emod q0 k).symm
  have hj1 : (0 : Int) ≤ (i0 : Int) := by omega
  have hj2 : (i0 : Int) < (k : Int) := by omega
  clear hi0
  have hi0x : i0 < x.names.length := by rw [HKL.out]; exact hi0k
  have hNM : StrsAt z2 (.slice p0 k k0) x.names := E2.out.ow.at.a0
  obtain ⟨pa, rfl, hcn⟩ : ∃ a : Addr, p0 = some a ∧ ∀ i (hi : i < x.names.length), a.block < z2.heap.size ∧ z2.cell? (a.add i) = some (.string x.names[i]) := by
    obtain ⟨ao', c', e1, hc1⟩ := hNM
    injection e1 with e2 e3 e4
    subst e2
    obtain ⟨a, ha, _⟩ := hc1 i0 hi0x
    refine ⟨a, ha, fun i hi => ?_⟩
    obtain ⟨a', ha', h1, h2⟩ := hc1 i hi
    rw [ha] at ha'
    injection ha' with ha'
    subst ha'
    exact ⟨h1, h2⟩
  have HCN := hide hcn
  have cn := (hcn i0 hi0x).2
  obtain ⟨s, es⟩ : ∃ s, x.names[i0] = s := ⟨_, rfl⟩
  rw [es] at cn
  have ES := hide es
  clear es hcn hNM
  have t0 := Lib.cell_of_heap E2.out.bx 0
  have t1 := Lib.cell_of_heap E2.out.bx 1
  have c0 := (HPC.out _ (Below.refl _ _)).1
  have c1 := (HPC.out _ (Below.refl _ _)).2
  simp at t0 t1
  go_wp2_with fail
  go_region
  go_wp2_with fail
  have HEL : Hid (EvLen x) := ⟨by rw [HKL.out]; omega, by rw [HKV.out]; omega⟩
  have PP := hide fun W (h : Below z2.heap.size z2 W) => implPutIn_any _ _ x s (q1 : Int) W (E2.out.stays h).ow.at HEL.out
  have F0 := hide (fun O => (Box.made z2 O 27))
  have td0 := fun o => Lib.cell_of_heap (E2.out.bx.stays ((Below.refl _ _).alloc (Nat.le_refl _) o)) 0
  have td1 := fun o => Lib.cell_of_heap (E2.out.bx.stays ((Below.refl _ _).alloc (Nat.le_refl _) o)) 1
  have tc1 := fun o => (HPC.out _ ((Below.refl z2.heap.size z2).alloc (Nat.le_refl _) o)).2
  simp at td0 td1
  have HB2 := hide B2.out.size
  go_cut [6] from 16 to 38 (fun fv z => ∃ F r0 r1, fv = .pointer (some ⟨F, 0, none⟩) ∧ Hid (EB w.heap.size z F (putE x s (q1 : Int)) r0 r1 ∧ Below z2.heap.size z2 z))
  case first =>
    go_region_law (first
      | (refine step_call rfl 8 #[.agg #[.slice (some pa) k k0, .slice p1 k k1], .string s, .int .i64 (q1 : Int)] ?_ (PP.out ((z2.alloc (.cells #[.slice none 0 0, .slice none 0 0] 27)).drew.drew) ?_) ?_; (kernel_rfl); (exact (((Below.refl _ _).alloc (Nat.le_refl _) _).drew).drew); rintro e z3 ⟨r0, r1, rfl, ho3, hb3⟩; refine ⟨_, rfl, ?_⟩; obtain ⟨u0, l0, e8⟩ := form_own ho3.o0; subst e8; obtain ⟨u1, l1, e9⟩ := form_own ho3.o1; subst e9; have XB := hide ((((F0.out #[.slice none 0 0, .slice none 0 0]).stays ((Below.refl _ _).drew)).stays ((Below.refl _ _).drew)).stays hb3); have y0 := Lib.cell_of_heap XB.out 0; have y1 := Lib.cell_of_heap XB.out 1; have f0 := Lib.frozen_of_heap XB.out 0; have f1 := Lib.frozen_of_heap XB.out 1; simp at y0 y1; have RES := hide (made_ahead HB2.out ho3 hb3))
      | (refine step_call rfl 8 #[.agg #[.slice (some pa) k k0, .slice p1 k k1], .string s, .int .i64 (q1 : Int)] ?_ (PP.out (z2.drew.drew) ?_) ?_; (kernel_rfl); (exact ((Below.refl _ _).drew).drew); rintro e z3 ⟨r0, r1, rfl, ho3, hb3⟩; refine ⟨_, rfl, ?_⟩; obtain ⟨u0, l0, e8⟩ := form_own ho3.o0; subst e8; obtain ⟨u1, l1, e9⟩ := form_own ho3.o1; subst e9; have RES := hide (made_behind HB2.out ho3 hb3)))
    all_goals go_wp2_with fail
    all_goals go_meet
    all_goals exact ⟨_, _, _, rfl, RES.out⟩
  case rest =>
    obtain ⟨F, f0, f1, rfl, hcut⟩ := hcut
    have F3 := hide hcut.out.1
    have HB3 := hide hcut.out.2
    have E3 := hide (E2.out.stays HB3.out)
    have B3 := hide (B2.out.trans (HB3.out.mono B2.out.size))
    have HPV : Hid (∀ z, Below wc.heap.size wc z → z.cell? ⟨gp, 1, none⟩ = some (.int .i64 (q1 : Int))) := fun z hz => (HPC.out z (HB3.out.trans (hz.mono HB3.out.size))).2
    have hVL : IntsAt z2 (.slice p1 k k1) x.vals := E2.out.ow.at.a1
    obtain ⟨pb, rfl, hcv⟩ : ∃ a : Addr, p1 = some a ∧ ∀ i (hi : i < x.vals.length), a.block < z2.heap.size ∧ z2.cell? (a.add i) = some (.int .i64 x.vals[i]) := by
      obtain ⟨ao', c', e1, hc1⟩ := hVL
      injection e1 with e2 e3 e4
      subst e2
      obtain ⟨a, ha, _⟩ := hc1 i0 (by rw [HKV.out]; exact hi0k)
      refine ⟨a, ha, fun i hi => ?_⟩
      obtain ⟨a', ha', h1, h2⟩ := hc1 i hi
      rw [ha] at ha'
      injection ha' with ha'
      subst ha'
      exact ⟨h1, h2⟩
    have HCW : Hid (∀ z, Below wc.heap.size wc z → ∀ i (hi : i < x.names.length) (hi' : i < x.vals.length), z.cell? (pa.add i) = some (.string x.names[i]) ∧ z.cell? (pb.add i) = some (.int .i64 x.vals[i])) := fun z hz i hi hi' =>
      have hh : Below z2.heap.size z2 z := HB3.out.trans (hz.mono HB3.out.size)
      ⟨(hh.cell (p := pa.add i) (by rw [block_add]; exact (HCN.out i hi).1)).trans (HCN.out i hi).2, (hh.cell (p := pb.add i) (by rw [block_add]; exact (hcv i hi').1)).trans (hcv i hi').2⟩
    have HVQ : Hid (vok (q1 : Int) = true) := (vok_iff _).2 ⟨by omega, by omega⟩
    have HGP : Hid (∀ i (hi : i < x.names.length) (hi' : i < x.vals.length), getE (putE x s (q1 : Int)) x.names[i] = if x.names[i] = s then (q1 : Int) else x.vals[i]) := fun i hi hi' => by
      have h9 := get_put HD.out.nodup (by rw [HKL.out, HKV.out]) hi hi0x (u := (q1 : Int)) HVQ.out
      rw [ES.out] at h9
      exact h9
    have HPS : Hid (∀ y ∈ (putE x s (q1 : Int)).names, y.size ≤ 1048576) := fun y hy => by
      have hy' : y ∈ x.names := by unfold putE at hy; split at hy <;> exact hy
      exact Nat.le_trans (HD.out.sm.s y hy') (by decide)
    have HPL : Hid (EvLen (putE x s (q1 : Int))) := putE_len (Nat.le_trans HD.out.sm.sz (by decide)) _ _
    have PG := hide fun W (h : Below wc.heap.size wc W) u => implGetIn_any f0 f1 (putE x s (q1 : Int)) u W (F3.out.stays h).ow.at HPL.out
    obtain ⟨g0, m0, e8⟩ := form_own F3.out.ow.o0
    subst e8
    obtain ⟨g1, m1, e9⟩ := form_own F3.out.ow.o1
    subst e9
    obtain ⟨nl, enl⟩ : ∃ m, (putE x s (q1 : Int)).names.length = m := ⟨_, rfl⟩
    obtain ⟨vl, evl⟩ : ∃ m, (putE x s (q1 : Int)).vals.length = m := ⟨_, rfl⟩
    rw [enl, evl] at F3 PG
    clear enl evl
    clear hcut hVL hcv PP F0 td0 td1 tc1 t0 t1 c0 c1 cn HB2 E2 B2 HPC HCN
    go_wp2_with fail
    go_loopw [7] (fun iv wr => ∃ i : Nat, i ≤ k ∧ iv = .int .i64 i ∧ Hid (Below wc.heap.size wc wr)) (fun iv _ => k - (intOf iv).toNat)
    case atStart => exact ⟨0, by omega, rfl, Below.refl _ _⟩
    case round =>
      obtain ⟨i, hi, rfl, HR⟩ := hrel
      have t0 := Lib.cell_of_heap (E3.out.bx.stays HR.out) 0
      have t1 := Lib.cell_of_heap (E3.out.bx.stays HR.out) 1
      have t2 := Lib.cell_of_heap (F3.out.bx.stays HR.out) 0
      have t3 := Lib.cell_of_heap (F3.out.bx.stays HR.out) 1
      have t4 := HPV.out _ HR.out
      simp at t0 t1 t2 t3
      by_cases hlt : i < k
      · have hlt' : (i : Int) < (k : Int) := by omega
        have hin0 : (0 : Int) ≤ (i : Int) := by omega
        have hix : i < x.names.length := by rw [HKL.out]; exact hlt
        have hiv : i < x.vals.length := by rw [HKV.out]; exact hlt
        have hh := HCW.out _ HR.out i hix hiv
        have t5 := hh.1
        have t6 := hh.2
        have hgp := HGP.out i hix hiv
        have hcmp := str_cmp x.names[i] s
        have PGi := hide fun W (h : Below wc.heap.size wc W) => PG.out W h x.names[i]
        rw [hgp] at PGi
        obtain ⟨y, ey⟩ : ∃ y, x.names[i] = y := ⟨_, rfl⟩
        obtain ⟨u, eu⟩ : ∃ u, x.vals[i] = u := ⟨_, rfl⟩
        rw [ey] at t5 hcmp PGi
        rw [eu] at t6 PGi
        clear ey eu hgp hh
        by_cases hys : y = s
        · subst hys
          have e9 : eqS y y = true := decide_eq_true rfl
          rw [e9] at hcmp
          rw [if_pos rfl] at PGi
          clear e9
          go_wp2_with fail
          go_region_law (refine step_call rfl 15 #[.agg #[.slice g0 nl m0, .slice g1 vl m1], .string y] ?_ (PGi.out _ ?_) ?_; (kernel_rfl); (exact HR.out.drew); rintro e z4 ⟨rfl, hb4⟩; refine ⟨_, rfl, ?_⟩; have HR4 := hide ((HR.out.drew).trans (hb4.mono (HR.out.drew).size)); clear hb4)
          all_goals go_wp2
          all_goals go_roundw
          all_goals first | (exact ⟨i + 1, by omega, by go_num, HR4.out⟩) | (simp [intOf]; omega)
        · have e9 : eqS s y = false := decide_eq_false hys
          rw [e9] at hcmp
          rw [if_neg hys] at PGi
          clear e9 hys
          go_wp2_with fail
          go_region_law (refine step_call rfl 15 #[.agg #[.slice g0 nl m0, .slice g1 vl m1], .string y] ?_ (PGi.out _ ?_) ?_; (kernel_rfl); (exact HR.out.drew); rintro e z4 ⟨rfl, hb4⟩; refine ⟨_, rfl, ?_⟩; have HR4 := hide ((HR.out.drew).trans (hb4.mono (HR.out.drew).size)); clear hb4)
          all_goals go_wp2
          all_goals go_roundw
          all_goals first | (exact ⟨i + 1, by omega, by go_num, HR4.out⟩) | (simp [intOf]; omega)
      · have hlt' : ¬ (i : Int) < (k : Int) := by omega
        have B4 := hide (B3.out.trans (HR.out.mono B3.out.size))
        have E4 := hide (E3.out.stays HR.out)
        have F4 := hide (F3.out.stays HR.out)
        go_wp2_with fail
        clear t0 t1 t2 t3 t4 hi hlt hlt' HR E3 F3 B3 HPV HCW HGP PG
        refine (drawTogether wr w.heap.size _ n hn (HC.out _ B4.out) B4.out.size).mono ?_
        rintro e z5 ⟨a0, a1, xa, b0, b1, xb, rfl, hoa, hsa, hob, hsb, hb5⟩
        obtain ⟨a0p, a0c, rfl⟩ := form_own hoa.o0
        obtain ⟨a1p, a1c, rfl⟩ := form_own hoa.o1
        obtain ⟨b0p, b0c, rfl⟩ := form_own hob.o0
        obtain ⟨b1p, b1c, rfl⟩ := form_own hob.o1
        have HSA := hide hsa
        have HSB := hide hsb
        obtain ⟨Z5, hZ5⟩ : ∃ Z, (z5.alloc (.cells #[.slice a0p xa.names.length a0c, .slice a1p xa.vals.length a1c] 27)).alloc (.cells #[.slice b0p xb.names.length b0c, .slice b1p xb.vals.length b1c] 27) = Z := ⟨_, rfl⟩
        have hbz : Below z5.heap.size z5 Z5 := by rw [← hZ5]; go_grown
        have A5 : Hid (EB w.heap.size Z5 z5.heap.size xa (.slice a0p xa.names.length a0c) (.slice a1p xa.vals.length a1c)) := ⟨by rw [← hZ5]; exact (Box.made _ _ _).stays ((Below.refl _ _).alloc (Nat.le_refl _) _), (hoa.lo B4.out.size).stays hbz⟩
        have BB5 : Hid (EB w.heap.size Z5 (z5.heap.size + 1) xb (.slice b0p xb.names.length b0c) (.slice b1p xb.vals.length b1c)) := ⟨by rw [← hZ5]; exact Box.madeAt (by simp) _ _, (hob.lo B4.out.size).stays hbz⟩
        have hb45 : Below wr.heap.size wr Z5 := hb5.trans (hbz.mono hb5.size)
        have E5 := hide (E4.out.stays hb45)
        have F5 := hide (F4.out.stays hb45)
        have B5 := hide (B4.out.trans (hb45.mono B4.out.size))
        have HZ5 := hide hZ5
        obtain ⟨GA, hGA⟩ : ∃ G, z5.heap.size = G := ⟨_, rfl⟩
        have HGA := hide hGA
        rw [hGA] at A5 BB5
        clear hoa hsa hob hsb hb5 hZ5 hbz hb45 hGA E4 F4 B4
        have t0 := Lib.cell_of_heap A5.out.bx 0
        have t1 := Lib.cell_of_heap A5.out.bx 1
        have t2 := Lib.cell_of_heap BB5.out.bx 0
        have t3 := Lib.cell_of_heap BB5.out.bx 1
        simp at t0 t1 t2 t3
        rw [← HZ5.out, ← HGA.out] at t0 t1 t2 t3
        have CT := hide (HIT.out xa xb (by have h1 := HSA.out.sz; have h2 := HSB.out.sz; omega) _ _ _ _ Z5 _ _ A5.out.ow.c BB5.out.ow.c)
        go_wp2_with fail
        rw [HZ5.out, HGA.out]
        refine CT.out.mono ?_
        rintro e z6 ⟨r0, r1, rfl, ho6, hb6⟩
        obtain ⟨r0p, r0c, rfl⟩ := form_own ho6.o0
        obtain ⟨r1p, r1c, rfl⟩ := form_own ho6.o1
        have T6 := hide (EB.made (ho6.lo B5.out.size))
        have hbz : Below Z5.heap.size Z5 (z6.alloc (.cells #[.slice r0p (togE xa xb).names.length r0c, .slice r1p (togE xa xb).vals.length r1c] 27)) := hb6.alloc hb6.size _
        obtain ⟨Z6, hZ6⟩ : ∃ Z, z6.alloc (.cells #[.slice r0p (togE xa xb).names.length r0c, .slice r1p (togE xa xb).vals.length r1c] 27) = Z := ⟨_, rfl⟩
        obtain ⟨GT, hGT⟩ : ∃ G, z6.heap.size = G := ⟨_, rfl⟩
        rw [hZ6] at hbz T6
        rw [hGT] at T6
        have E6 := hide (E5.out.stays hbz)
        have F6 := hide (F5.out.stays hbz)
        have A6 := hide (A5.out.stays hbz)
        have BB6 := hide (BB5.out.stays hbz)
        have B6 := hide (B5.out.trans (hbz.mono B5.out.size))
        have HZ6 := hide hZ6
        have HGT := hide hGT
        obtain ⟨tn, etn⟩ : ∃ m, (togE xa xb).names.length = m := ⟨_, rfl⟩
        obtain ⟨tv, etv⟩ : ∃ m, (togE xa xb).vals.length = m := ⟨_, rfl⟩
        rw [etn, etv] at T6 HZ6 ⊢
        clear etn etv ho6 hb6 hbz hZ6 hGT E5 F5 A5 BB5 B5 t0 t1 t2 t3 CT HZ5
        go_wp2_with fail
        rw [HZ6.out, HGT.out]
        refine (drawEnvOk Z6 w.heap.size _ n hn (HC.out _ B6.out) B6.out.size).mono ?_
        rintro e z7 ⟨v0, v1, xx, rfl, ho7, hs7, hb7⟩
        obtain ⟨v0p, v0c, rfl⟩ := form_own ho7.o0
        obtain ⟨v1p, v1c, rfl⟩ := form_own ho7.o1
        have X7 := hide (EB.made (ho7.lo B6.out.size))
        have HSX := hide hs7
        have hbz : Below Z6.heap.size Z6 (z7.alloc (.cells #[.slice v0p xx.names.length v0c, .slice v1p xx.vals.length v1c] 27)) := hb7.alloc hb7.size _
        obtain ⟨Z7, hZ7⟩ : ∃ Z, z7.alloc (.cells #[.slice v0p xx.names.length v0c, .slice v1p xx.vals.length v1c] 27) = Z := ⟨_, rfl⟩
        obtain ⟨GX, hGX⟩ : ∃ G, z7.heap.size = G := ⟨_, rfl⟩
        rw [hZ7] at hbz X7
        rw [hGX] at X7
        have E7 := hide (E6.out.stays hbz)
        have F7 := hide (F6.out.stays hbz)
        have A7 := hide (A6.out.stays hbz)
        have BB7 := hide (BB6.out.stays hbz)
        have T7 := hide (T6.out.stays hbz)
        have B7 := hide (B6.out.trans (hbz.mono B6.out.size))
        have HZ7 := hide hZ7
        have HGX := hide hGX
        clear ho7 hs7 hb7 hbz hZ7 hGX E6 F6 A6 BB6 T6 B6 HZ6
        go_wp2_with fail
        rw [HZ7.out, HGX.out]
        refine (drawPutIn Z7 w.heap.size _ n hn (HC.out _ B7.out) B7.out.size).mono ?_
        rintro e z8 ⟨y0, y1, xy, sy, uy, rfl, ho8, hs8, hz8, hb8⟩
        obtain ⟨y0p, y0c, rfl⟩ := form_own ho8.o0
        obtain ⟨y1p, y1c, rfl⟩ := form_own ho8.o1
        have Y8 := hide (EB.made (ho8.lo B7.out.size))
        have HSY := hide hs8
        have HSZ := hide hz8
        have hbz : Below Z7.heap.size Z7 (z8.alloc (.cells #[.slice y0p xy.names.length y0c, .slice y1p xy.vals.length y1c] 27)) := hb8.alloc hb8.size _
        obtain ⟨Z8, hZ8⟩ : ∃ Z, z8.alloc (.cells #[.slice y0p xy.names.length y0c, .slice y1p xy.vals.length y1c] 27) = Z := ⟨_, rfl⟩
        obtain ⟨GY, hGY⟩ : ∃ G, z8.heap.size = G := ⟨_, rfl⟩
        rw [hZ8] at hbz Y8
        rw [hGY] at Y8
        have E8 := hide (E7.out.stays hbz)
        have F8 := hide (F7.out.stays hbz)
        have A8 := hide (A7.out.stays hbz)
        have BB8 := hide (BB7.out.stays hbz)
        have T8 := hide (T7.out.stays hbz)
        have X8 := hide (X7.out.stays hbz)
        have B8 := hide (B7.out.trans (hbz.mono B7.out.size))
        have HZ8 := hide hZ8
        have HGY := hide hGY
        clear ho8 hs8 hz8 hb8 hbz hZ8 hGY E7 F7 A7 BB7 T7 X7 B7 HZ7
        go_wp2_with fail
        rw [HZ8.out, HGY.out]
        have KC : Hid (∀ z : World, Below Z8.heap.size Z8 z → (z.cell? ⟨E, 0, none⟩ = some (.slice (some pa) k k0) ∧ z.cell? ⟨E, 1, none⟩ = some (.slice (some pb) k k1) ∧ z.cell? ⟨F, 0, none⟩ = some (.slice g0 nl m0) ∧ z.cell? ⟨F, 1, none⟩ = some (.slice g1 vl m1) ∧ z.cell? ⟨GA, 0, none⟩ = some (.slice a0p xa.names.length a0c) ∧ z.cell? ⟨GA, 1, none⟩ = some (.slice a1p xa.vals.length a1c) ∧ z.cell? ⟨(GA + 1), 0, none⟩ = some (.slice b0p xb.names.length b0c) ∧ z.cell? ⟨(GA + 1), 1, none⟩ = some (.slice b1p xb.vals.length b1c) ∧ z.cell? ⟨GT, 0, none⟩ = some (.slice r0p tn r0c) ∧ z.cell? ⟨GT, 1, none⟩ = some (.slice r1p tv r1c) ∧ z.cell? ⟨GX, 0, none⟩ = some (.slice v0p xx.names.length v0c) ∧ z.cell? ⟨GX, 1, none⟩ = some (.slice v1p xx.vals.length v1c) ∧ z.cell? ⟨GY, 0, none⟩ = some (.slice y0p xy.names.length y0c) ∧ z.cell? ⟨GY, 1, none⟩ = some (.slice y1p xy.vals.length y1c) ∧ Hid (Below Z8.heap.size Z8 z))) := fun z hz => ⟨Lib.cell_of_heap (E8.out.stays hz).bx 0, Lib.cell_of_heap (E8.out.stays hz).bx 1, Lib.cell_of_heap (F8.out.stays hz).bx 0, Lib.cell_of_heap (F8.out.stays hz).bx 1, Lib.cell_of_heap (A8.out.stays hz).bx 0, Lib.cell_of_heap (A8.out.stays hz).bx 1, Lib.cell_of_heap (BB8.out.stays hz).bx 0, Lib.cell_of_heap (BB8.out.stays hz).bx 1, Lib.cell_of_heap (T8.out.stays hz).bx 0, Lib.cell_of_heap (T8.out.stays hz).bx 1, Lib.cell_of_heap (X8.out.stays hz).bx 0, Lib.cell_of_heap (X8.out.stays hz).bx 1, Lib.cell_of_heap (Y8.out.stays hz).bx 0, Lib.cell_of_heap (Y8.out.stays hz).bx 1, hz⟩
        have KV : Hid (∀ z : World, (z.cell? ⟨E, 0, none⟩ = some (.slice (some pa) k k0) ∧ z.cell? ⟨E, 1, none⟩ = some (.slice (some pb) k k1) ∧ z.cell? ⟨F, 0, none⟩ = some (.slice g0 nl m0) ∧ z.cell? ⟨F, 1, none⟩ = some (.slice g1 vl m1) ∧ z.cell? ⟨GA, 0, none⟩ = some (.slice a0p xa.names.length a0c) ∧ z.cell? ⟨GA, 1, none⟩ = some (.slice a1p xa.vals.length a1c) ∧ z.cell? ⟨(GA + 1), 0, none⟩ = some (.slice b0p xb.names.length b0c) ∧ z.cell? ⟨(GA + 1), 1, none⟩ = some (.slice b1p xb.vals.length b1c) ∧ z.cell? ⟨GT, 0, none⟩ = some (.slice r0p tn r0c) ∧ z.cell? ⟨GT, 1, none⟩ = some (.slice r1p tv r1c) ∧ z.cell? ⟨GX, 0, none⟩ = some (.slice v0p xx.names.length v0c) ∧ z.cell? ⟨GX, 1, none⟩ = some (.slice v1p xx.vals.length v1c) ∧ z.cell? ⟨GY, 0, none⟩ = some (.slice y0p xy.names.length y0c) ∧ z.cell? ⟨GY, 1, none⟩ = some (.slice y1p xy.vals.length y1c) ∧ Hid (Below Z8.heap.size Z8 z)) → Below Z8.heap.size Z8 z) := fun z hz => hz.2.2.2.2.2.2.2.2.2.2.2.2.2.2.out
        have KP : Hid (∀ z z' : World, (z.cell? ⟨E, 0, none⟩ = some (.slice (some pa) k k0) ∧ z.cell? ⟨E, 1, none⟩ = some (.slice (some pb) k k1) ∧ z.cell? ⟨F, 0, none⟩ = some (.slice g0 nl m0) ∧ z.cell? ⟨F, 1, none⟩ = some (.slice g1 vl m1) ∧ z.cell? ⟨GA, 0, none⟩ = some (.slice a0p xa.names.length a0c) ∧ z.cell? ⟨GA, 1, none⟩ = some (.slice a1p xa.vals.length a1c) ∧ z.cell? ⟨(GA + 1), 0, none⟩ = some (.slice b0p xb.names.length b0c) ∧ z.cell? ⟨(GA + 1), 1, none⟩ = some (.slice b1p xb.vals.length b1c) ∧ z.cell? ⟨GT, 0, none⟩ = some (.slice r0p tn r0c) ∧ z.cell? ⟨GT, 1, none⟩ = some (.slice r1p tv r1c) ∧ z.cell? ⟨GX, 0, none⟩ = some (.slice v0p xx.names.length v0c) ∧ z.cell? ⟨GX, 1, none⟩ = some (.slice v1p xx.vals.length v1c) ∧ z.cell? ⟨GY, 0, none⟩ = some (.slice y0p xy.names.length y0c) ∧ z.cell? ⟨GY, 1, none⟩ = some (.slice y1p xy.vals.length y1c) ∧ Hid (Below Z8.heap.size Z8 z)) → Below z.heap.size z z' → (z'.cell? ⟨E, 0, none⟩ = some (.slice (some pa) k k0) ∧ z'.cell? ⟨E, 1, none⟩ = some (.slice (some pb) k k1) ∧ z'.cell? ⟨F, 0, none⟩ = some (.slice g0 nl m0) ∧ z'.cell? ⟨F, 1, none⟩ = some (.slice g1 vl m1) ∧ z'.cell? ⟨GA, 0, none⟩ = some (.slice a0p xa.names.length a0c) ∧ z'.cell? ⟨GA, 1, none⟩ = some (.slice a1p xa.vals.length a1c) ∧ z'.cell? ⟨(GA + 1), 0, none⟩ = some (.slice b0p xb.names.length b0c) ∧ z'.cell? ⟨(GA + 1), 1, none⟩ = some (.slice b1p xb.vals.length b1c) ∧ z'.cell? ⟨GT, 0, none⟩ = some (.slice r0p tn r0c) ∧ z'.cell? ⟨GT, 1, none⟩ = some (.slice r1p tv r1c) ∧ z'.cell? ⟨GX, 0, none⟩ = some (.slice v0p xx.names.length v0c) ∧ z'.cell? ⟨GX, 1, none⟩ = some (.slice v1p xx.vals.length v1c) ∧ z'.cell? ⟨GY, 0, none⟩ = some (.slice y0p xy.names.length y0c) ∧ z'.cell? ⟨GY, 1, none⟩ = some (.slice y1p xy.vals.length y1c) ∧ Hid (Below Z8.heap.size Z8 z'))) := fun z z' hz hb => KC.out _ ((KV.out _ hz).trans (hb.mono (KV.out _ hz).size))
        have K0 := hide (KC.out _ (Below.refl Z8.heap.size Z8).drew)
        have CE := fun z (hz : Below Z8.heap.size Z8 z) => hide (implEnvOk_any _ _ x _ z (E8.out.stays hz).ow.c HEL.out (fun y hy => Nat.le_trans (HD.out.sm.s y hy) (by decide)))
        have CF := fun z (hz : Below Z8.heap.size Z8 z) => hide (implEnvOk_any _ _ (putE x s (q1 : Int)) _ z (F8.out.stays hz).ow.c HPL.out (HPS.out))
        have CX := fun z (hz : Below Z8.heap.size Z8 z) => hide (implEnvOk_any _ _ xx _ z (X8.out.stays hz).ow.c (szEv_len (Nat.le_trans HSX.out.sz (by decide))) (fun y hy => Nat.le_trans (HSX.out.s y hy) (by decide)))
        have CS := fun z (hz : Below Z8.heap.size Z8 z) => hide (specEnvOk_any _ _ xx _ z (X8.out.stays hz).ow.c (szEv_len (Nat.le_trans HSX.out.sz (by decide))) (fun y hy => Nat.le_trans (HSX.out.s y hy) (by decide)))
        have CT := fun z (hz : Below Z8.heap.size Z8 z) => hide (specTogether_any _ _ _ _ xa xb z (A8.out.stays hz).ow.at (BB8.out.stays hz).ow.at (by have h1 := HSA.out.sz; have h2 := HSB.out.sz; omega))
        have CP := fun z (hz : Below Z8.heap.size Z8 z) => hide (implPutIn_any _ _ xy sy uy z (Y8.out.stays hz).ow.at (szEv_len (Nat.le_trans HSY.out.sz (by decide))))
        have CQ := fun z (hz : Below Z8.heap.size Z8 z) => hide (specPutIn_any _ _ xy sy uy z (Y8.out.stays hz).ow.at (szEv_len (Nat.le_trans HSY.out.sz (by decide))))
        have CG := fun z (hz : Below Z8.heap.size Z8 z) => hide (implGetIn_any _ _ x ⟨#[110, 111, 110, 101]⟩ z (E8.out.stays hz).ow.at HEL.out)
        simp only [HD.out.ok] at CE
        simp only [HD.out.ok_put s HVQ.out] at CF
        simp only [HD.out.none] at CG
        obtain ⟨bx, ebx⟩ : ∃ b, envOkB xx = b := ⟨_, rfl⟩
        simp only [ebx] at CX CS
        have hbb : (bx == bx) = true := by cases bx <;> rfl
        have CW := fun z (hz : Below Z8.heap.size Z8 z) p0 p1 (h : EvAt z p0 p1 (togE xa xb)) => hide (sameEnv_same _ _ p0 p1 (togE xa xb) z (T8.out.stays hz).ow.at h (togE_len (by have h1 := HSA.out.sz; have h2 := HSB.out.sz; omega)))
        have CU := fun z p0 p1 r0 r1 (h : EvAt z p0 p1 (putE xy sy uy)) (h' : EvAt z r0 r1 (putE xy sy uy)) => hide (sameEnv_same p0 p1 r0 r1 (putE xy sy uy) z h h' (putE_len (Nat.le_trans HSY.out.sz (by decide)) _ _))
        clear ebx
        go_region_held3 (fun z => z.cell? ⟨E, 0, none⟩ = some (.slice (some pa) k k0) ∧ z.cell? ⟨E, 1, none⟩ = some (.slice (some pb) k k1) ∧ z.cell? ⟨F, 0, none⟩ = some (.slice g0 nl m0) ∧ z.cell? ⟨F, 1, none⟩ = some (.slice g1 vl m1) ∧ z.cell? ⟨GA, 0, none⟩ = some (.slice a0p xa.names.length a0c) ∧ z.cell? ⟨GA, 1, none⟩ = some (.slice a1p xa.vals.length a1c) ∧ z.cell? ⟨(GA + 1), 0, none⟩ = some (.slice b0p xb.names.length b0c) ∧ z.cell? ⟨(GA + 1), 1, none⟩ = some (.slice b1p xb.vals.length b1c) ∧ z.cell? ⟨GT, 0, none⟩ = some (.slice r0p tn r0c) ∧ z.cell? ⟨GT, 1, none⟩ = some (.slice r1p tv r1c) ∧ z.cell? ⟨GX, 0, none⟩ = some (.slice v0p xx.names.length v0c) ∧ z.cell? ⟨GX, 1, none⟩ = some (.slice v1p xx.vals.length v1c) ∧ z.cell? ⟨GY, 0, none⟩ = some (.slice y0p xy.names.length y0c) ∧ z.cell? ⟨GY, 1, none⟩ = some (.slice y1p xy.vals.length y1c) ∧ Hid (Below Z8.heap.size Z8 z)) (first | exact K0.out | exact KP.out _ _ (by assumption) hb)
          (first
            | (go_at_call_of 20 (Value.agg #[Value.slice (some pa) k k0, Value.slice (some pb) k k1]); refine (unhide (CE _ (KV.out _ (by assumption)))).mono ?_; rintro e w1 ⟨rfl, hb⟩)
            | (go_at_call_of 20 (Value.agg #[Value.slice g0 nl m0, Value.slice g1 vl m1]); refine (unhide (CF _ (KV.out _ (by assumption)))).mono ?_; rintro e w2 ⟨rfl, hb⟩)
            | (go_at_call 22; refine (unhide (CT _ (KV.out _ (by assumption)))).mono ?_; rintro e w3 ⟨tr0, tr1, rfl, hor, hb⟩)
            | (go_at_call_of 21 (Value.agg #[Value.slice r0p tn r0c, Value.slice r1p tv r1c]); refine (unhide (CW _ (KV.out _ (by assumption)) _ _ hor.at)).mono ?_; rintro e w4 ⟨rfl, hb⟩)
            | (go_at_call 20; refine (unhide (CX _ (KV.out _ (by assumption)))).mono ?_; rintro e w5 ⟨rfl, hb⟩)
            | (go_at_call 23; refine (unhide (CS _ (KV.out _ (by assumption)))).mono ?_; rintro e w6 ⟨rfl, hb⟩)
            | (go_at_call 8; refine (unhide (CP _ (KV.out _ (by assumption)))).mono ?_; rintro e w7 ⟨pr0, pr1, rfl, hop, hb⟩)
            | (go_at_call 6; refine (unhide (CQ _ (KV.out _ (by assumption)))).mono ?_; rintro e w8 ⟨qr0, qr1, rfl, hoq, hb⟩; have hop2 := hop.stays hb)
            | (go_at_call 21; refine (unhide (CU _ _ _ _ _ hop2.at hoq.at)).mono ?_; rintro e w9 ⟨rfl, hb⟩)
            | (go_at_call 15; refine (unhide (CG _ (KV.out _ (by assumption)))).mono ?_; rintro e w10 ⟨rfl, hb⟩))
        all_goals go_wp2
        all_goals go_ret
        all_goals exact ⟨rfl, B8.out.trans ((KV.out _ (by assumption)).mono B8.out.size)⟩
end Go.Proofs.Ytmckcbgdkjbpfaa
