/-
  Able, by both sides.
-/
import Derived.Test.YtkoelibclihekaaMdlP
import Derived.Test.YtkoelibclihekaaEnvT
namespace Go.Proofs.Ytkoelibclihekaa
open Go.RowKit

def ableN (xs : List Ac) (i : Nat) : List Int := ((List.range i).filter fun j => (xs.getD j default).ready).map fun (j : Nat) => (j : Int)
theorem ableN_succ (xs : List Ac) (i : Nat) : ableN xs (i + 1) = ableN xs i ++ (if (xs.getD i default).ready then [(i : Int)] else []) := by
  unfold ableN
  rw [List.range_succ, List.filter_append, List.map_append]
  congr 1
  by_cases h : (xs.getD i default).ready = true
  · simp only [List.filter_cons, h, List.filter_nil, if_true, List.map]
  · simp only [List.filter_cons, h, List.filter_nil, if_false, List.map, Bool.false_eq_true]
theorem ableN_len (xs : List Ac) (i : Nat) : (ableN xs i).length ≤ i := by
  unfold ableN
  rw [List.length_map]
  exact Nat.le_trans (List.length_filter_le _ _) (by simp)
def ableE (x : Md) : Ri := ⟨if x.stopped then [] else ableN x.acts x.acts.length⟩
/-- How far the program has come: nobody when it is stopped. -/
def ableS (x : Md) (i : Nat) : List Int := if x.stopped then [] else ableN x.acts i
theorem ableS_succ (x : Md) (i : Nat) : ableS x (i + 1) = ableS x i ++ (if ((x.acts.getD i default).ready && !x.stopped) then [(i : Int)] else []) := by
  unfold ableS
  cases x.stopped
  · simp [ableN_succ]
  · simp
theorem ableS_len (x : Md) (i : Nat) : (ableS x i).length ≤ i := by
  unfold ableS
  cases x.stopped
  · simpa using ableN_len x.acts i
  · simp
theorem ableS_end (x : Md) : ableS x x.acts.length = (ableE x).row := rfl
/-- While those that are ready are told. -/
structure AbZ (w : World) (x : Md) (i : Nat) (r : Value) (z : World) : Prop where
  own : z.ownsRow w.heap.size 3 1 r ((ableS x i).map I64).length ((ableS x i).map I64)
  bel : Below w.heap.size w z
theorem AbZ.stays {w : World} {x : Md} {i : Nat} {r : Value} {z z' : World} (h : AbZ w x i r z) (hb : Below z.heap.size z z') : AbZ w x i r z' :=
  ⟨owns_eq h.own fun g hg => hb.block g (h.own.lt g hg).2, h.bel.trans (hb.mono h.bel.size)⟩
def AbR (w : World) (x : Md) (rv iv : Value) (z : World) : Prop := ∃ (i : Nat), i ≤ x.acts.length ∧ iv = .int .i64 (i : Int) ∧ Hid (AbZ w x i rv z)
set_option maxRecDepth 100000 in
set_option maxHeartbeats 4000000 in
theorem specAble_any (v0 v1 v2 v3 v4 v5 v6 v7 : Value) (x : Md) (w : World) (h : MdAt w v0 v1 v2 v3 v4 v5 v6 v7 x) (hl : x.acts.length ≤ 1048576) :
    Calls Try.prog 6 #[.agg #[v0, v1, v2, v3, v4, v5, v6, v7, .bool x.stopped]] w fun e w' => ∃ r, e = .returned r ∧ RiOwn w.heap.size w' r (ableE x) ∧ Below w.heap.size w w' := by
  obtain ⟨h0, h1, h2, h3, h4, h5, h6, h7⟩ := h
  have H := hide h3
  obtain ⟨o0, c0, rfl, _⟩ := h0
  obtain ⟨o1, c1, rfl, _⟩ := h1
  obtain ⟨o2, c2, rfl, _⟩ := h2
  obtain ⟨o3, c3, rfl, _⟩ := h3
  obtain ⟨o4, c4, rfl, _⟩ := h4
  obtain ⟨o5, c5, rfl, _⟩ := h5
  obtain ⟨o6, c6, rfl, _⟩ := h6
  obtain ⟨o7, c7, rfl, _⟩ := h7
  obtain ⟨n0, en0⟩ : ∃ n, x.prog.nodes.length = n := ⟨_, rfl⟩
  obtain ⟨n1, en1⟩ : ∃ n, x.prog.mons.length = n := ⟨_, rfl⟩
  obtain ⟨n2, en2⟩ : ∃ n, x.prog.pros.length = n := ⟨_, rfl⟩
  obtain ⟨n3, en3⟩ : ∃ n, x.acts.length = n := ⟨_, rfl⟩
  obtain ⟨n4, en4⟩ : ∃ n, x.gates.length = n := ⟨_, rfl⟩
  obtain ⟨n5, en5⟩ : ∃ n, x.vars.length = n := ⟨_, rfl⟩
  obtain ⟨n6, en6⟩ : ∃ n, x.input.length = n := ⟨_, rfl⟩
  obtain ⟨n7, en7⟩ : ∃ n, x.events.length = n := ⟨_, rfl⟩
  have EN := hide en3
  simp only [en0, en1, en2, en3, en4, en5, en6, en7] at H hl ⊢
  clear en0 en1 en2 en3 en4 en5 en6 en7
  obtain ⟨W1, hW⟩ : ∃ W1, w.alloc (.cells #[.slice o0 n0 c0, .slice o1 n1 c1, .slice o2 n2 c2, .slice o3 n3 c3, .slice o4 n4 c4, .slice o5 n5 c5, .slice o6 n6 c6, .slice o7 n7 c7, .bool x.stopped] 46) = W1 := ⟨_, rfl⟩
  have BX : Hid (Box W1 w.heap.size #[.slice o0 n0 c0, .slice o1 n1 c1, .slice o2 n2 c2, .slice o3 n3 c3, .slice o4 n4 c4, .slice o5 n5 c5, .slice o6 n6 c6, .slice o7 n7 c7, .bool x.stopped] 46) := hide (hW ▸ Box.made w _ _)
  have BW : Hid (Below w.heap.size w W1) := hide (hW ▸ (Below.refl _ _).alloc (Nat.le_refl _) _)
  have Z0 : Hid (AbZ W1 x 0 (.slice (some ⟨W1.heap.size, 0, none⟩) 0 0) (W1.alloc (.cells #[] 3))) :=
    hide ⟨by
      have e : ableS x 0 = [] := by unfold ableS ableN; simp
      rw [e]
      exact ownsRow_empty W1 W1.heap.size 3 (Nat.le_refl _), (Below.refl _ _).alloc (Nat.le_refl _) _⟩
  have HS : Hid (W1.heap.size = w.heap.size + 1) := hide (by rw [← hW]; simp)
  obtain ⟨g, eg⟩ : ∃ g, w.heap.size = g := ⟨_, rfl⟩
  have HW := hide hW
  have EG := hide eg
  clear hW eg
  go_enter Try.func6, Try.ntmps6
  go_upto_region 1 with fail
  rw [HW.out]
  clear HW
  rw [EG.out] at BX HS ⊢
  have b1 := Lib.cell_of_heap BX.out 3
  have b2 := Lib.cell_of_heap BX.out 8
  simp at b1 b2
  have f1 : ∀ o, (W1.alloc o).cell? ⟨g, 3, none⟩ = some (.slice o3 n3 c3) := fun o => by
    rw [World.cell?_alloc_lt _ _ _ (by show g < _; rw [HS.out]; omega)]; exact b1
  go_wp2
  go_loopw [3, 4] (fun rv iv z => AbR W1 x rv iv z ∧ (x.stopped = true → iv = .int .i64 0)) (fun _ iv _ => n3 - (intOf iv).toNat)
  case atStart => exact ⟨⟨0, by omega, rfl, Z0⟩, fun _ => rfl⟩
  case round =>
    clear Z0 f1 b1 b2
    obtain ⟨⟨i, hi, rfl, Z⟩, hst⟩ := hrel
    rw [EN.out] at hi
    have bz := hide (BX.out.stays Z.out.bel)
    have b1 := Lib.cell_of_heap bz.out 3
    have b2 := Lib.cell_of_heap bz.out 8
    simp at b1 b2
    obtain ⟨rp, rk, rfl⟩ := form_own Z.out.own
    by_cases hlt : i < n3
    · have hlt' : (i : Int) < (n3 : Int) := by omega
      have hi0 : (0 : Int) ≤ (i : Int) := by omega
      have hix : i < x.acts.length := by rw [EN.out]; exact hlt
      have hwi : wrap64 ((i : Int) + 1) = (i : Int) + 1 := by unfold wrap64; omega
      obtain ⟨ao', cc, e5, hc⟩ := (H.out.stays BW.out).stays Z.out.bel
      injection e5 with e6 e7 e8
      subst e6
      obtain ⟨a, u0, u1, u2, u4, u5, u6, rfl, hab, d⟩ := hc i hix
      have HPT := hide (ableS_succ x i)
      have HLE := hide (ableS_len x i)
      have eg2 : x.acts.getD i default = x.acts[i] := by simp [List.getD, hix]
      rw [eg2] at HPT
      obtain ⟨y, ey⟩ : ∃ y, x.acts[i] = y := ⟨_, rfl⟩
      rw [ey] at d HPT
      clear hc e7 e8 ey eg2
      have HL : Hid (((ableS x i).map I64).length = (ableS x i).length) := hide (List.length_map ..)
      have d10 := d.c10
      clear d
      cases hs : x.stopped
      · rw [hs] at b2 HPT
        cases hr : y.ready
        · rw [hr] at d10 HPT
          simp at HPT
          have Z2 : Hid (AbZ W1 x (i + 1) (.slice rp ((ableS x i).map I64).length rk) wr) := hide ⟨by rw [HPT.out]; exact Z.out.own, Z.out.bel⟩
          go_wp2
          go_roundw
          case rel => exact ⟨⟨i + 1, by rw [EN.out]; omega, by go_num, Z2⟩, fun h => by cases h⟩
          case measure => simp [intOf]; omega
        · rw [hr] at d10 HPT
          simp at HPT
          have BP := hide (Box.made wr #[.int .i64 (i : Int)] 3)
          have ZA := hide (Z.out.stays ((Below.refl _ _).alloc (Nat.le_refl _) (.cells #[.int .i64 (i : Int)] 3)))
          go_wp2_with (at_builtin; refine wpList_more rfl (.tmp 24) (.tmp 26) 30 rfl W1.heap.size 3 (.int .i64 0) 8 Try.underlying30 Try.infoInt rfl (.slice rp ((ableS x i).map I64).length rk) ((ableS x i).map I64) rfl ?_ wr.heap.size (.int .i64 (i : Int)) rfl ?_ rfl ?_ ?_ ?_ ?_)
          · exact ZA.out.own
          · exact Lib.cell_of_heap BP.out 0
          · rw [HL.out]; have := HLE.out; unfold maxLen; omega
          · rw [HL.out]; have := HLE.out; omega
          · exact Nat.le_trans Z.out.bel.size (by simp)
          intro v' w' hm
          have Z9 : Hid (AbZ W1 x (i + 1) v' w') := hide ⟨by
            rw [HPT.out, List.map_append]
            have h9 := hm.own
            rw [List.length_append]
            exact h9, ZA.out.bel.trans (hm.bel.mono (Nat.le_refl _))⟩
          clear hm ZA BP
          go_wp2
          go_roundw
          case rel => exact ⟨⟨i + 1, by rw [EN.out]; omega, by go_num, Z9⟩, fun h => by cases h⟩
          case measure => simp [intOf]; omega
      · rw [hs] at b2
        have e0 := hst hs
        have HO := hide Z.out.own
        have eE : ableS x i = (ableE x).row := by unfold ableS ableE; simp [hs]
        rw [eE, List.length_map] at HO
        rw [eE, List.length_map]
        clear eE e0 d10 HPT
        go_wp2
        go_ret
        exact ⟨_, rfl, RiOwn.lo ⟨HO.out⟩ (by rw [HS.out]; have := EG.out; omega), BW.out.trans (Z.out.bel.mono BW.out.size)⟩
    · have hlt' : ¬ (i : Int) < (n3 : Int) := by omega
      have e9 : ableS x i = (ableE x).row := by rw [← ableS_end, show i = x.acts.length from by rw [EN.out]; omega]
      have HO := hide Z.out.own
      rw [e9, List.length_map] at HO
      rw [e9, List.length_map]
      clear e9
      go_wp2
      go_ret
      exact ⟨_, rfl, RiOwn.lo ⟨HO.out⟩ (by rw [HS.out]; have := EG.out; omega), BW.out.trans (Z.out.bel.mono BW.out.size)⟩
set_option maxRecDepth 100000 in
set_option maxHeartbeats 4000000 in
theorem implAble_any (v0 v1 v2 v3 v4 v5 v6 v7 : Value) (x : Md) (w : World) (h : MdAt w v0 v1 v2 v3 v4 v5 v6 v7 x) (hl : x.acts.length ≤ 1048576) :
    Calls Try.prog 8 #[.agg #[v0, v1, v2, v3, v4, v5, v6, v7, .bool x.stopped]] w fun e w' => ∃ r, e = .returned r ∧ RiOwn w.heap.size w' r (ableE x) ∧ Below w.heap.size w w' := by
  obtain ⟨h0, h1, h2, h3, h4, h5, h6, h7⟩ := h
  have H := hide h3
  obtain ⟨o0, c0, rfl, _⟩ := h0
  obtain ⟨o1, c1, rfl, _⟩ := h1
  obtain ⟨o2, c2, rfl, _⟩ := h2
  obtain ⟨o3, c3, rfl, _⟩ := h3
  obtain ⟨o4, c4, rfl, _⟩ := h4
  obtain ⟨o5, c5, rfl, _⟩ := h5
  obtain ⟨o6, c6, rfl, _⟩ := h6
  obtain ⟨o7, c7, rfl, _⟩ := h7
  obtain ⟨n0, en0⟩ : ∃ n, x.prog.nodes.length = n := ⟨_, rfl⟩
  obtain ⟨n1, en1⟩ : ∃ n, x.prog.mons.length = n := ⟨_, rfl⟩
  obtain ⟨n2, en2⟩ : ∃ n, x.prog.pros.length = n := ⟨_, rfl⟩
  obtain ⟨n3, en3⟩ : ∃ n, x.acts.length = n := ⟨_, rfl⟩
  obtain ⟨n4, en4⟩ : ∃ n, x.gates.length = n := ⟨_, rfl⟩
  obtain ⟨n5, en5⟩ : ∃ n, x.vars.length = n := ⟨_, rfl⟩
  obtain ⟨n6, en6⟩ : ∃ n, x.input.length = n := ⟨_, rfl⟩
  obtain ⟨n7, en7⟩ : ∃ n, x.events.length = n := ⟨_, rfl⟩
  have EN := hide en3
  simp only [en0, en1, en2, en3, en4, en5, en6, en7] at H hl ⊢
  clear en0 en1 en2 en3 en4 en5 en6 en7
  obtain ⟨W1, hW⟩ : ∃ W1, w.alloc (.cells #[.slice o0 n0 c0, .slice o1 n1 c1, .slice o2 n2 c2, .slice o3 n3 c3, .slice o4 n4 c4, .slice o5 n5 c5, .slice o6 n6 c6, .slice o7 n7 c7, .bool x.stopped] 46) = W1 := ⟨_, rfl⟩
  have BX : Hid (Box W1 w.heap.size #[.slice o0 n0 c0, .slice o1 n1 c1, .slice o2 n2 c2, .slice o3 n3 c3, .slice o4 n4 c4, .slice o5 n5 c5, .slice o6 n6 c6, .slice o7 n7 c7, .bool x.stopped] 46) := hide (hW ▸ Box.made w _ _)
  have BW : Hid (Below w.heap.size w W1) := hide (hW ▸ (Below.refl _ _).alloc (Nat.le_refl _) _)
  have Z0 : Hid (AbZ W1 x 0 (.slice (some ⟨W1.heap.size, 0, none⟩) 0 0) (W1.alloc (.cells #[] 3))) :=
    hide ⟨by
      have e : ableS x 0 = [] := by unfold ableS ableN; simp
      rw [e]
      exact ownsRow_empty W1 W1.heap.size 3 (Nat.le_refl _), (Below.refl _ _).alloc (Nat.le_refl _) _⟩
  have HS : Hid (W1.heap.size = w.heap.size + 1) := hide (by rw [← hW]; simp)
  obtain ⟨g, eg⟩ : ∃ g, w.heap.size = g := ⟨_, rfl⟩
  have HW := hide hW
  have EG := hide eg
  clear hW eg
  go_enter Try.func8, Try.ntmps8
  go_upto_region 1 with fail
  rw [HW.out]
  clear HW
  rw [EG.out] at BX HS ⊢
  have b1 := Lib.cell_of_heap BX.out 3
  have b2 := Lib.cell_of_heap BX.out 8
  simp at b1 b2
  have f1 : ∀ o, (W1.alloc o).cell? ⟨g, 3, none⟩ = some (.slice o3 n3 c3) := fun o => by
    rw [World.cell?_alloc_lt _ _ _ (by show g < _; rw [HS.out]; omega)]; exact b1
  go_wp2
  go_loopw [3, 10] (fun rv iv z => AbR W1 x rv iv z) (fun _ iv _ => n3 - (intOf iv).toNat)
  case atStart => exact ⟨0, by omega, rfl, Z0⟩
  case round =>
    clear Z0 f1 b1 b2
    obtain ⟨i, hi, rfl, Z⟩ := hrel
    rw [EN.out] at hi
    have bz := hide (BX.out.stays Z.out.bel)
    have b1 := Lib.cell_of_heap bz.out 3
    have b2 := Lib.cell_of_heap bz.out 8
    simp at b1 b2
    obtain ⟨rp, rk, rfl⟩ := form_own Z.out.own
    by_cases hlt : i < n3
    · have hlt' : (i : Int) < (n3 : Int) := by omega
      have hi0 : (0 : Int) ≤ (i : Int) := by omega
      have hix : i < x.acts.length := by rw [EN.out]; exact hlt
      have hwi : wrap64 ((i : Int) + 1) = (i : Int) + 1 := by unfold wrap64; omega
      obtain ⟨ao', cc, e5, hc⟩ := (H.out.stays BW.out).stays Z.out.bel
      injection e5 with e6 e7 e8
      subst e6
      obtain ⟨a, u0, u1, u2, u4, u5, u6, rfl, hab, d⟩ := hc i hix
      have HPT := hide (ableS_succ x i)
      have HLE := hide (ableS_len x i)
      have eg2 : x.acts.getD i default = x.acts[i] := by simp [List.getD, hix]
      rw [eg2] at HPT
      obtain ⟨y, ey⟩ : ∃ y, x.acts[i] = y := ⟨_, rfl⟩
      rw [ey] at d HPT
      clear hc e7 e8 ey eg2
      have HL : Hid (((ableS x i).map I64).length = (ableS x i).length) := hide (List.length_map ..)
      have d10 := d.c10
      clear d10
      obtain ⟨d0, d1, d2, d3, d4, d5, d6, d7, d8, d9, d10, d11, r0, r1, r2, r4, r5, r6⟩ := d
      obtain ⟨s0, k0, rfl, _⟩ := r0
      obtain ⟨s1, k1, rfl, _⟩ := r1
      obtain ⟨s2, k2, rfl, _⟩ := r2
      obtain ⟨s4, k4, rfl, _⟩ := r4
      obtain ⟨s5, k5, rfl, _⟩ := r5
      obtain ⟨s6, k6, rfl, _⟩ := r6
      go_upto_region 5 with fail
      obtain ⟨w1, hw1⟩ : ∃ w1, wr.alloc (.cells #[.slice s0 y.otodo.length k0, .slice s1 y.onames.length k1, .slice s2 y.ovals.length k2, .int .i64 y.ofault, .slice s4 y.itodo.length k4, .slice s5 y.inames.length k5, .slice s6 y.ivals.length k6, .int .i64 y.ifault, .int .i64 y.monitor, .int .i64 y.entry, .bool y.ready, .bool y.over] 65) = w1 := ⟨_, rfl⟩
      have HB : Hid (Below wr.heap.size wr w1) := hide (hw1 ▸ (Below.refl _ _).alloc (Nat.le_refl _) _)
      have BE : Hid (Box w1 wr.heap.size #[.slice s0 y.otodo.length k0, .slice s1 y.onames.length k1, .slice s2 y.ovals.length k2, .int .i64 y.ofault, .slice s4 y.itodo.length k4, .slice s5 y.inames.length k5, .slice s6 y.ivals.length k6, .int .i64 y.ifault, .int .i64 y.monitor, .int .i64 y.entry, .bool y.ready, .bool y.over] 65) := hide (hw1 ▸ Box.made wr _ _)
      rw [hw1]
      clear hw1 d0 d1 d2 d3 d4 d5 d6 d7 d8 d9 d10 d11 b1 b2
      have ZE := hide (Z.out.stays HB.out)
      have bz2 := hide (bz.out.stays HB.out)
      have b2 := Lib.cell_of_heap bz2.out 8
      have d10 := Lib.cell_of_heap BE.out 10
      simp at b2 d10
      have quiet : (y.ready && !x.stopped) = false → Hid (AbZ W1 x (i + 1) (.slice rp ((ableS x i).map I64).length rk) w1) := fun h => hide ⟨by rw [HPT.out, h]; simpa using ZE.out.own, ZE.out.bel⟩
      cases hr : y.ready
      · rw [hr] at d10 quiet
        have Z2 := quiet rfl
        clear quiet
        go_wp2
        go_roundw
        case rel => exact ⟨i + 1, by rw [EN.out]; omega, by go_num, Z2⟩
        case measure => simp [intOf]; omega
      · rw [hr] at d10 quiet HPT
        obtain hs | hs := (Bool.eq_false_or_eq_true x.stopped).symm
        · rw [hs] at b2 HPT
          simp at HPT
          clear quiet hs
          have BP := hide (Box.made w1 #[.int .i64 (i : Int)] 3)
          have ZA := hide (ZE.out.stays ((Below.refl _ _).alloc (Nat.le_refl _) (.cells #[.int .i64 (i : Int)] 3)))
          go_wp2_with (at_builtin; refine wpList_more rfl (.tmp 22) (.tmp 24) 30 rfl W1.heap.size 3 (.int .i64 0) 8 Try.underlying30 Try.infoInt rfl (.slice rp ((ableS x i).map I64).length rk) ((ableS x i).map I64) rfl ?_ w1.heap.size (.int .i64 (i : Int)) rfl ?_ rfl ?_ ?_ ?_ ?_)
          · exact ZA.out.own
          · exact Lib.cell_of_heap BP.out 0
          · rw [HL.out]; have := HLE.out; unfold maxLen; omega
          · rw [HL.out]; have := HLE.out; omega
          · exact Nat.le_trans ZE.out.bel.size (by simp)
          intro v' w' hm
          have Z9 : Hid (AbZ W1 x (i + 1) v' w') := hide ⟨by
            rw [HPT.out, List.map_append]
            have h9 := hm.own
            rw [List.length_append]
            exact h9, ZA.out.bel.trans (hm.bel.mono (Nat.le_refl _))⟩
          clear hm ZA BP
          go_wp2
          go_roundw
          case rel => exact ⟨i + 1, by rw [EN.out]; omega, by go_num, Z9⟩
          case measure => simp [intOf]; omega
        · rw [hs] at b2 quiet
          have Z2 := quiet rfl
          clear quiet hs
          go_wp2
          go_roundw
          case rel => exact ⟨i + 1, by rw [EN.out]; omega, by go_num, Z2⟩
          case measure => simp [intOf]; omega
    · have hlt' : ¬ (i : Int) < (n3 : Int) := by omega
      have e9 : ableS x i = (ableE x).row := by rw [← ableS_end, show i = x.acts.length from by rw [EN.out]; omega]
      have HO := hide Z.out.own
      rw [e9, List.length_map] at HO
      rw [e9, List.length_map]
      clear e9
      go_wp2
      go_ret
      exact ⟨_, rfl, RiOwn.lo ⟨HO.out⟩ (by rw [HS.out]; have := EG.out; omega), BW.out.trans (Z.out.bel.mono BW.out.size)⟩
end Go.Proofs.Ytkoelibclihekaa
