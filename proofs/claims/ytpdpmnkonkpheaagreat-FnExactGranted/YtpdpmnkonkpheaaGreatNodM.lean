/-
  Walks: what is wrong with a node in an entry, by the specification.
-/
import Derived.Test.YtpdpmnkonkpheaaGreatNodC
import Derived.Test.YtpdpmnkonkpheaaGreatPureP
import Derived.Test.YtpdpmnkonkpheaaGreatAid
import Derived.Test.YtpdpmnkonkpheaaGreatTreeB
import Derived.Test.YtpdpmnkonkpheaaGreatImvI
import Derived.Test.YtpdpmnkonkpheaaGreatTreeV
namespace Go.Proofs.YtpdpmnkonkpheaaGreat
open Go.RowKit

set_option maxRecDepth 100000 in
set_option maxHeartbeats 4000000 in
theorem l08Node_mon (nv mv pv : Value) (ns : List Nd) (ms : List Mo) (ps : List Pr) (i j k : Nat) (w : World) (hN : NdsAt w nv ns) (hM : MosAt w mv ms) (hP : PrsAt w pv ps) (hi : i < ms.length) (hj : j < ms[i].ents.length) (hk : k < ns.length) (hql : ms[i].queues.length ≤ 1048576) (hvl : ms[i].vars.length ≤ 1048000) :
    Calls Tryz.prog 30 #[.agg #[nv, mv, pv], .int .i64 (k : Int), .agg #[.int .i64 (-1), .int .i64 (i : Int), .int .i64 (j : Int)]] w fun e w' => e = .returned (.int .i64 (codeM ms[i].queues (ms[i].ents[j].param :: resultN :: ms[i].vars) ns[k])) ∧ Below w.heap.size w w' := by
  obtain ⟨a, c, p, kv, rfl, hpa, hpb, hcell⟩ := hN.node k hk
  have Z := hide (NoZ.start (nv := .slice (some a) ns.length c) hM hP (-1) (i : Int) (j : Int) ns[k] kv)
  have hb1 : Below w.heap.size w (w.alloc (.cells #[.slice (some a) ns.length c, mv, pv] 33)) := (Below.refl _ _).alloc (Nat.le_refl _) _
  have hb2 : Below w.heap.size w ((w.alloc (.cells #[.slice (some a) ns.length c, mv, pv] 33)).alloc (.cells #[.int .i64 (-1), .int .i64 (i : Int), .int .i64 (j : Int)] 71)) := hb1.alloc hb1.size _
  obtain ⟨d0, d1, d2, d3, d4, d5, _⟩ := hcell.stays hb2 hpb
  have q0 := ((Boxed.made w (.slice (some a) ns.length c) mv pv 33).stays ((Below.refl _ (w.alloc (.cells #[.slice (some a) ns.length c, mv, pv] 33))).alloc (Nat.le_refl _) (.cells #[.int .i64 (-1), .int .i64 (i : Int), .int .i64 (j : Int)] 71))).c0
  obtain ⟨ko, kc, rfl, _⟩ := hcell.kids
  have CV := fun z h => hide (l08Vars_mon (.slice (some a) ns.length c) mv pv ms i j z ⟨_, _, _, rfl⟩ h hP.sl hi hj (by omega))
  have CI := fun v xs s z h hl => hide (l08In_any v xs s z h hl)
  obtain ⟨po, pc, rfl, _⟩ := hP
  obtain ⟨mo, mc, rfl, hmc⟩ := hM
  obtain ⟨ma, vu, uv, eu, rfl, hpb2, hx⟩ := hmc i hi
  obtain ⟨r, hra⟩ : ∃ r, ma.add (i * 4) = r := ⟨_, rfl⟩
  rw [← block_add ma (i * 4), hra] at hpb2
  rw [hra] at hx
  obtain ⟨uo, uc, rfl, _⟩ := hx.queues
  have DU : Hid (∀ z, Below w.heap.size w z → z.cell? { block := r.block, off := r.off + 2 } = some (.slice uo ms[i].queues.length uc)) := fun z hz => (hz.cell (p := { block := r.block, off := r.off + 2 }) hpb2).trans hx.c2
  have HU : Hid (∀ z, Below w.heap.size w z → StrsAt z (.slice uo ms[i].queues.length uc) ms[i].queues) := fun z hz => hx.queues.stays hz
  clear hmc hpb2 hx
  have hi0 : (0 : Int) ≤ (i : Int) := by omega
  have hi1 : (i : Int) < (ms.length : Int) := by omega
  have hk0 : (0 : Int) ≤ (k : Int) := by omega
  have hk1 : (k : Int) < (ns.length : Int) := by omega
  obtain ⟨qs, eqs⟩ : ∃ qs, ms[i].queues = qs := ⟨_, rfl⟩
  rw [eqs] at hql DU HU ⊢
  have hvl2 : (ms[i].ents[j].param :: resultN :: ms[i].vars).length ≤ 1048576 := by simp only [List.length_cons]; omega
  obtain ⟨vs, evs⟩ : ∃ vs, ms[i].ents[j].param :: resultN :: ms[i].vars = vs := ⟨_, rfl⟩
  rw [evs] at CV hvl2 ⊢
  obtain ⟨x, ex⟩ : ∃ x, ns[k] = x := ⟨_, rfl⟩
  rw [ex] at Z d0 d1 d2 d3 d4 d5 ⊢
  obtain ⟨kd, nu, nm, mr, it, ks⟩ := x
  dsimp only at Z d0 d1 d2 d3 d4 d5
  clear eqs evs ex hb1 hb2 hcell hN hvl
  (
  obtain ⟨c0, c1, c2, _⟩ := Z.out.bp;
  have h0 := Lib.cell_of_heap Z.out.bh 0; have h1 := Lib.cell_of_heap Z.out.bh 1; have h2 := Lib.cell_of_heap Z.out.bh 2;
  have n0 := Lib.cell_of_heap Z.out.bn 0; have n2 := Lib.cell_of_heap Z.out.bn 2; have n3 := Lib.cell_of_heap Z.out.bn 3; have n4 := Lib.cell_of_heap Z.out.bn 4;
  simp at h0 h1 h2 n0 n2 n3 n4)
  by_cases e1 : kd = 14
  case pos =>
    subst e1
    have HE : Hid (codeM qs vs ⟨14, nu, nm, mr, it, ks⟩ = 5) := rfl
    rw [HE.out]
    go_enter Tryz.func30, Tryz.ntmps30
    go_wp2
    go_ret
    exact ⟨rfl, Z.out.bel⟩
  by_cases e2 : kd = 16
  case pos =>
    subst e2
    have HE : Hid (codeM qs vs ⟨16, nu, nm, mr, it, ks⟩ = 5) := rfl
    rw [HE.out]
    go_enter Tryz.func30, Tryz.ntmps30
    go_wp2
    go_ret
    exact ⟨rfl, Z.out.bel⟩
  by_cases e3 : kd = 17
  case pos =>
    subst e3
    have HE : Hid (codeM qs vs ⟨17, nu, nm, mr, it, ks⟩ = if memB qs nm = true then 0 else 3) := rfl
    obtain ⟨R, eR⟩ : ∃ R, codeM qs vs ⟨17, nu, nm, mr, it, ks⟩ = R := ⟨_, rfl⟩
    rw [eR]
    have ER := hide eR
    clear eR
    have CW := fun z h => CI (.slice uo qs.length uc) qs nm z (HU.out z h) hql
    have d9 := DU.out _ Z.out.bel
    cases hq : memB qs nm with
    | true =>
      rw [hq] at CW
      have CW2 := fun n => hide (Calls.quiet_of_same (w := (((w.alloc (.cells #[.slice (some a) ns.length c, .slice (some ma) ms.length mc, .slice po ps.length pc] 33)).alloc (.cells #[.int .i64 (-1), .int .i64 (i : Int), .int .i64 (j : Int)] 71)).alloc (.cells #[.int .i64 17, .int .i64 nu, .string nm, .string mr, .string it, .slice ko ks.length kc] 73))) (n := n) (unhide (CW ((((w.alloc (.cells #[.slice (some a) ns.length c, .slice (some ma) ms.length mc, .slice po ps.length pc] 33)).alloc (.cells #[.int .i64 (-1), .int .i64 (i : Int), .int .i64 (j : Int)] 71)).alloc (.cells #[.int .i64 17, .int .i64 nu, .string nm, .string mr, .string it, .slice ko ks.length kc] 73)).drewN n) (below_drewN Z.out.bel _))))
      have eR2 : R = 0 := by rw [← ER.out, HE.out, hq]; rfl
      subst eR2
      clear hq CW
      go_enter Tryz.func30, Tryz.ntmps30
      go_wp2_with fail
      go_quiet ((go_at_call 33; with_reducible exact unhide (CW2 _)))
      all_goals go_wp2_with fail
      all_goals refine (unhide (CV _ (Z.out.stays (below_drewN (Below.refl _ _) _)).mos)).mono ?_
      all_goals rintro e w5 ⟨vv, rfl, hsv, hb5⟩
      all_goals have Z5 := hide ((Z.out.stays (below_drewN (Below.refl _ _) _)).stays hb5)
      all_goals clear hb5 hsv c0 c1 c2 h0 h1 h2 n0 n2 n3 n4 q0 d0 d1 d2 d3 d4 d5 CW2 d9
      all_goals obtain ⟨c0, c1, c2, _⟩ := Z5.out.bp
      all_goals have n0 := Lib.cell_of_heap Z5.out.bn 0
      all_goals simp at n0
      all_goals go_wp2
      all_goals go_quiet (fail)
      all_goals go_wp2
      all_goals go_ret
      all_goals exact ⟨rfl, below_drewN Z5.out.bel _⟩
    | false =>
      rw [hq] at CW
      have CW2 := fun n => hide (Calls.quiet_of_same (w := (((w.alloc (.cells #[.slice (some a) ns.length c, .slice (some ma) ms.length mc, .slice po ps.length pc] 33)).alloc (.cells #[.int .i64 (-1), .int .i64 (i : Int), .int .i64 (j : Int)] 71)).alloc (.cells #[.int .i64 17, .int .i64 nu, .string nm, .string mr, .string it, .slice ko ks.length kc] 73))) (n := n) (unhide (CW ((((w.alloc (.cells #[.slice (some a) ns.length c, .slice (some ma) ms.length mc, .slice po ps.length pc] 33)).alloc (.cells #[.int .i64 (-1), .int .i64 (i : Int), .int .i64 (j : Int)] 71)).alloc (.cells #[.int .i64 17, .int .i64 nu, .string nm, .string mr, .string it, .slice ko ks.length kc] 73)).drewN n) (below_drewN Z.out.bel _))))
      have eR2 : R = 3 := by rw [← ER.out, HE.out, hq]; rfl
      subst eR2
      clear hq CW
      go_enter Tryz.func30, Tryz.ntmps30
      go_wp2_with fail
      go_quiet ((go_at_call 33; with_reducible exact unhide (CW2 _)))
      all_goals go_wp2
      all_goals go_ret
      all_goals exact ⟨rfl, below_drewN Z.out.bel _⟩
  by_cases e4 : kd = 18
  case pos =>
    subst e4
    have HE : Hid (codeM qs vs ⟨18, nu, nm, mr, it, ks⟩ = if memB qs nm = true then 0 else 3) := rfl
    obtain ⟨R, eR⟩ : ∃ R, codeM qs vs ⟨18, nu, nm, mr, it, ks⟩ = R := ⟨_, rfl⟩
    rw [eR]
    have ER := hide eR
    clear eR
    have CW := fun z h => CI (.slice uo qs.length uc) qs nm z (HU.out z h) hql
    have d9 := DU.out _ Z.out.bel
    cases hq : memB qs nm with
    | true =>
      rw [hq] at CW
      have CW2 := fun n => hide (Calls.quiet_of_same (w := (((w.alloc (.cells #[.slice (some a) ns.length c, .slice (some ma) ms.length mc, .slice po ps.length pc] 33)).alloc (.cells #[.int .i64 (-1), .int .i64 (i : Int), .int .i64 (j : Int)] 71)).alloc (.cells #[.int .i64 18, .int .i64 nu, .string nm, .string mr, .string it, .slice ko ks.length kc] 73))) (n := n) (unhide (CW ((((w.alloc (.cells #[.slice (some a) ns.length c, .slice (some ma) ms.length mc, .slice po ps.length pc] 33)).alloc (.cells #[.int .i64 (-1), .int .i64 (i : Int), .int .i64 (j : Int)] 71)).alloc (.cells #[.int .i64 18, .int .i64 nu, .string nm, .string mr, .string it, .slice ko ks.length kc] 73)).drewN n) (below_drewN Z.out.bel _))))
      have eR2 : R = 0 := by rw [← ER.out, HE.out, hq]; rfl
      subst eR2
      clear hq CW
      go_enter Tryz.func30, Tryz.ntmps30
      go_wp2_with fail
      go_quiet ((go_at_call 33; with_reducible exact unhide (CW2 _)))
      all_goals go_wp2_with fail
      all_goals refine (unhide (CV _ (Z.out.stays (below_drewN (Below.refl _ _) _)).mos)).mono ?_
      all_goals rintro e w5 ⟨vv, rfl, hsv, hb5⟩
      all_goals have Z5 := hide ((Z.out.stays (below_drewN (Below.refl _ _) _)).stays hb5)
      all_goals clear hb5 hsv c0 c1 c2 h0 h1 h2 n0 n2 n3 n4 q0 d0 d1 d2 d3 d4 d5 CW2 d9
      all_goals obtain ⟨c0, c1, c2, _⟩ := Z5.out.bp
      all_goals have n0 := Lib.cell_of_heap Z5.out.bn 0
      all_goals simp at n0
      all_goals go_wp2
      all_goals go_quiet (fail)
      all_goals go_wp2
      all_goals go_ret
      all_goals exact ⟨rfl, below_drewN Z5.out.bel _⟩
    | false =>
      rw [hq] at CW
      have CW2 := fun n => hide (Calls.quiet_of_same (w := (((w.alloc (.cells #[.slice (some a) ns.length c, .slice (some ma) ms.length mc, .slice po ps.length pc] 33)).alloc (.cells #[.int .i64 (-1), .int .i64 (i : Int), .int .i64 (j : Int)] 71)).alloc (.cells #[.int .i64 18, .int .i64 nu, .string nm, .string mr, .string it, .slice ko ks.length kc] 73))) (n := n) (unhide (CW ((((w.alloc (.cells #[.slice (some a) ns.length c, .slice (some ma) ms.length mc, .slice po ps.length pc] 33)).alloc (.cells #[.int .i64 (-1), .int .i64 (i : Int), .int .i64 (j : Int)] 71)).alloc (.cells #[.int .i64 18, .int .i64 nu, .string nm, .string mr, .string it, .slice ko ks.length kc] 73)).drewN n) (below_drewN Z.out.bel _))))
      have eR2 : R = 3 := by rw [← ER.out, HE.out, hq]; rfl
      subst eR2
      clear hq CW
      go_enter Tryz.func30, Tryz.ntmps30
      go_wp2_with fail
      go_quiet ((go_at_call 33; with_reducible exact unhide (CW2 _)))
      all_goals go_wp2
      all_goals go_ret
      all_goals exact ⟨rfl, below_drewN Z.out.bel _⟩
  by_cases e5 : kd = 2
  case pos =>
    subst e5
    have HE : Hid (codeM qs vs ⟨2, nu, nm, mr, it, ks⟩ = if memB vs nm = true then 0 else 2) := rfl
    obtain ⟨R, eR⟩ : ∃ R, codeM qs vs ⟨2, nu, nm, mr, it, ks⟩ = R := ⟨_, rfl⟩
    rw [eR]
    have ER := hide eR
    clear eR
    go_enter Tryz.func30, Tryz.ntmps30
    go_wp2_with fail
    refine (unhide (CV _ Z.out.mos)).mono ?_
    rintro e w5 ⟨vv, rfl, hsv, hb5⟩
    have Z5 := hide (Z.out.stays hb5)
    have SV := hide hsv
    clear hb5 hsv c0 c1 c2 h0 h1 h2 n0 n2 n3 n4 q0 d0 d1 d2 d3 d4 d5
    obtain ⟨c0, c1, c2, _⟩ := Z5.out.bp
    have h0 := Lib.cell_of_heap Z5.out.bh 0
    have n0 := Lib.cell_of_heap Z5.out.bn 0
    have n2 := Lib.cell_of_heap Z5.out.bn 2
    have n4 := Lib.cell_of_heap Z5.out.bn 4
    simp at h0 n0 n2 n4
    have CN := CI vv vs nm w5 SV.out hvl2
    cases hq : memB vs nm with
    | true =>
      rw [hq] at CN
      have eR2 : R = 0 := by rw [← ER.out, HE.out, hq]; rfl
      subst eR2
      clear hq
      go_wp2_with (go_at_call 33; refine (unhide CN).mono ?_; rintro e w6 ⟨rfl, rfl⟩)
      go_quiet (fail)
      all_goals go_wp2
      all_goals go_ret
      all_goals exact ⟨rfl, below_drewN Z5.out.bel _⟩
    | false =>
      rw [hq] at CN
      have eR2 : R = 2 := by rw [← ER.out, HE.out, hq]; rfl
      subst eR2
      clear hq
      go_wp2_with (go_at_call 33; refine (unhide CN).mono ?_; rintro e w6 ⟨rfl, rfl⟩)
      go_ret
      exact ⟨rfl, Z5.out.bel⟩
  by_cases e6 : kd = 11
  case pos =>
    subst e6
    have HE : Hid (codeM qs vs ⟨11, nu, nm, mr, it, ks⟩ = if memB vs nm = true then 0 else 2) := rfl
    obtain ⟨R, eR⟩ : ∃ R, codeM qs vs ⟨11, nu, nm, mr, it, ks⟩ = R := ⟨_, rfl⟩
    rw [eR]
    have ER := hide eR
    clear eR
    go_enter Tryz.func30, Tryz.ntmps30
    go_wp2_with fail
    refine (unhide (CV _ Z.out.mos)).mono ?_
    rintro e w5 ⟨vv, rfl, hsv, hb5⟩
    have Z5 := hide (Z.out.stays hb5)
    have SV := hide hsv
    clear hb5 hsv c0 c1 c2 h0 h1 h2 n0 n2 n3 n4 q0 d0 d1 d2 d3 d4 d5
    obtain ⟨c0, c1, c2, _⟩ := Z5.out.bp
    have h0 := Lib.cell_of_heap Z5.out.bh 0
    have n0 := Lib.cell_of_heap Z5.out.bn 0
    have n2 := Lib.cell_of_heap Z5.out.bn 2
    have n4 := Lib.cell_of_heap Z5.out.bn 4
    simp at h0 n0 n2 n4
    have CN := CI vv vs nm w5 SV.out hvl2
    cases hq : memB vs nm with
    | true =>
      rw [hq] at CN
      have eR2 : R = 0 := by rw [← ER.out, HE.out, hq]; rfl
      subst eR2
      clear hq
      go_wp2_with (go_at_call 33; refine (unhide CN).mono ?_; rintro e w6 ⟨rfl, rfl⟩)
      go_quiet (fail)
      all_goals go_wp2
      all_goals go_ret
      all_goals exact ⟨rfl, below_drewN Z5.out.bel _⟩
    | false =>
      rw [hq] at CN
      have eR2 : R = 2 := by rw [← ER.out, HE.out, hq]; rfl
      subst eR2
      clear hq
      go_wp2_with (go_at_call 33; refine (unhide CN).mono ?_; rintro e w6 ⟨rfl, rfl⟩)
      go_ret
      exact ⟨rfl, Z5.out.bel⟩
  have HE : Hid (codeM qs vs ⟨kd, nu, nm, mr, it, ks⟩ = 0) := by
    show _ = _
    unfold codeM
    rw [if_neg (by simp; omega), if_neg (by simp; omega), if_neg (by simp; omega)]
  have b1 : (kd == 14) = false := by simpa using e1
  have b2 : (kd == 16) = false := by simpa using e2
  have b3 : (kd == 17) = false := by simpa using e3
  have b4 : (kd == 18) = false := by simpa using e4
  have b5 : (kd == 2) = false := by simpa using e5
  have b6 : (kd == 11) = false := by simpa using e6
  rw [HE.out]
  clear e1 e2 e3 e4 e5 e6 HE
  go_enter Tryz.func30, Tryz.ntmps30
  go_wp2_with fail
  refine (unhide (CV _ Z.out.mos)).mono ?_
  rintro e w5 ⟨vv, rfl, hsv, hb5⟩
  have Z5 := hide (Z.out.stays hb5)
  have SV := hide hsv
  clear hb5 hsv c0 c1 c2 h0 h1 h2 n0 n2 n3 n4 q0 d0 d1 d2 d3 d4 d5
  obtain ⟨c0, c1, c2, _⟩ := Z5.out.bp
  have h0 := Lib.cell_of_heap Z5.out.bh 0
  have n0 := Lib.cell_of_heap Z5.out.bn 0
  have n2 := Lib.cell_of_heap Z5.out.bn 2
  have n4 := Lib.cell_of_heap Z5.out.bn 4
  simp at h0 n0 n2 n4
  go_wp2
  go_quiet (fail)
  all_goals go_wp2
  all_goals go_ret
  all_goals exact ⟨rfl, below_drewN Z5.out.bel _⟩
end Go.Proofs.YtpdpmnkonkpheaaGreat

namespace Go.Proofs.YtpdpmnkonkpheaaGreat

/-- A home: a process, or a monitor and an entry. -/
abbrev Hm := Int × Int × Int
def hmV (h : Hm) : List Value := [.int .i64 h.1, .int .i64 h.2.1, .int .i64 h.2.2]
/-- The first j places that are marked get this home. -/
def setTo (hs : List Hm) (u : List Bool) (h : Hm) : Nat → List Hm
  | 0 => hs
  | j + 1 => if u.getD j false = true then (setTo hs u h j).set j h else setTo hs u h j
theorem setTo_len (hs : List Hm) (u : List Bool) (h : Hm) : ∀ j, (setTo hs u h j).length = hs.length
  | 0 => rfl
  | j + 1 => by
    unfold setTo
    split
    · rw [List.length_set, setTo_len hs u h j]
    · exact setTo_len hs u h j
/-- A monitor's first k entries. -/
def entsTo (ns : List Nd) (n i : Nat) (es : List En) (hs : List Hm) : Nat → List Hm
  | 0 => hs
  | k + 1 => setTo (entsTo ns n i es hs k) (undL ns n (es.getD k default).body.toNat) (-1, (i : Int), (k : Int)) n
/-- The first i monitors. -/
def monsTo (ns : List Nd) (n : Nat) (ms : List Mo) : Nat → List Hm
  | 0 => List.replicate n (0, 0, 0)
  | i + 1 => entsTo ns n i (ms.getD i default).ents (monsTo ns n ms i) (ms.getD i default).ents.length
/-- And the first i processes. -/
def prosTo (ns : List Nd) (n : Nat) (ms : List Mo) (ps : List Pr) : Nat → List Hm
  | 0 => monsTo ns n ms ms.length
  | i + 1 => setTo (prosTo ns n ms ps i) (undL ns n (ps.getD i default).body.toNat) ((i : Int), -1, -1) n
def homesL (ns : List Nd) (ms : List Mo) (ps : List Pr) : List Hm := prosTo ns ns.length ms ps ps.length
end Go.Proofs.YtpdpmnkonkpheaaGreat

namespace Go.Proofs.YtpdpmnkonkpheaaGreat

/-- A home that is there. -/
def HomOk (ms : List Mo) (ps : List Pr) (h : Hm) : Prop :=
  (∃ i : Nat, i < ps.length ∧ h = ((i : Int), -1, -1)) ∨ ∃ i k : Nat, i < ms.length ∧ k < (ms.getD i default).ents.length ∧ h = (-1, (i : Int), (k : Int))
theorem setTo_at (hs : List Hm) (u : List Bool) (h : Hm) (j : Nat) (hj : j < hs.length) : ∀ m, (setTo hs u h m).getD j (0, 0, 0) = if j < m ∧ u.getD j false = true then h else hs.getD j (0, 0, 0)
  | 0 => by rw [setTo, if_neg (by omega)]
  | m + 1 => by
    have ih := setTo_at hs u h j hj m
    rw [setTo]
    by_cases hu : u.getD m false = true
    · rw [if_pos hu]
      by_cases e : m = j
      · subst e
        rw [if_pos ⟨by omega, hu⟩, List.getD_eq_getElem?_getD, List.getElem?_set_self (by rw [setTo_len]; exact hj)]
        rfl
      · rw [List.getD_eq_getElem?_getD, List.getElem?_set_ne e, ← List.getD_eq_getElem?_getD, ih]
        have : (j < m ∧ u.getD j false = true) ↔ (j < m + 1 ∧ u.getD j false = true) := by constructor <;> (rintro ⟨a, b⟩; exact ⟨by omega, b⟩)
        simp only [this]
    · rw [if_neg hu, ih]
      have : (j < m ∧ u.getD j false = true) ↔ (j < m + 1 ∧ u.getD j false = true) := by
        constructor
        · rintro ⟨a, b⟩; exact ⟨by omega, b⟩
        · rintro ⟨a, b⟩
          refine ⟨?_, b⟩
          by_cases e : j = m
          · subst e; exact absurd b hu
          · omega
      simp only [this]
theorem setTo_ok {ms : List Mo} {ps : List Pr} {hs : List Hm} {u : List Bool} {h : Hm} {j : Nat} (hj : j < hs.length) (m : Nat) (ho : HomOk ms ps (hs.getD j (0, 0, 0))) (hh : HomOk ms ps h) : HomOk ms ps ((setTo hs u h m).getD j (0, 0, 0)) := by
  rw [setTo_at hs u h j hj m]
  split
  · exact hh
  · exact ho
theorem setTo_hit {ms : List Mo} {ps : List Pr} {hs : List Hm} {u : List Bool} {h : Hm} {j m : Nat} (hj : j < hs.length) (hm : j < m) (hu : u.getD j false = true) (hh : HomOk ms ps h) : HomOk ms ps ((setTo hs u h m).getD j (0, 0, 0)) := by
  rw [setTo_at hs u h j hj m, if_pos ⟨hm, hu⟩]
  exact hh
theorem entsTo_len (ns : List Nd) (n i : Nat) (es : List En) (hs : List Hm) : ∀ k, (entsTo ns n i es hs k).length = hs.length
  | 0 => rfl
  | k + 1 => by rw [entsTo, setTo_len, entsTo_len ns n i es hs k]
theorem monsTo_len (ns : List Nd) (n : Nat) (ms : List Mo) : ∀ i, (monsTo ns n ms i).length = n
  | 0 => by rw [monsTo, List.length_replicate]
  | i + 1 => by rw [monsTo, entsTo_len, monsTo_len ns n ms i]
theorem prosTo_len (ns : List Nd) (n : Nat) (ms : List Mo) (ps : List Pr) : ∀ i, (prosTo ns n ms ps i).length = n
  | 0 => by rw [prosTo, monsTo_len]
  | i + 1 => by rw [prosTo, setTo_len, prosTo_len ns n ms ps i]
theorem entsTo_ok {ns : List Nd} {n i : Nat} {ms : List Mo} {ps : List Pr} {hs : List Hm} {j : Nat} (hi : i < ms.length) (hj : j < hs.length) (hn : j < n) : ∀ k, k ≤ (ms.getD i default).ents.length →
    (HomOk ms ps (hs.getD j (0, 0, 0)) ∨ ∃ k' < k, (undL ns n ((ms.getD i default).ents.getD k' default).body.toNat).getD j false = true) → HomOk ms ps ((entsTo ns n i (ms.getD i default).ents hs k).getD j (0, 0, 0))
  | 0, _, h => by
    rcases h with h | ⟨k', hk', _⟩
    · exact h
    · omega
  | k + 1, hk, h => by
    rw [entsTo]
    have hh : HomOk ms ps (-1, (i : Int), (k : Int)) := .inr ⟨i, k, hi, by omega, rfl⟩
    have hl : j < (entsTo ns n i (ms.getD i default).ents hs k).length := by rw [entsTo_len]; exact hj
    rcases h with h | ⟨k', hk', hu⟩
    · exact setTo_ok hl n (entsTo_ok hi hj hn k (by omega) (.inl h)) hh
    · by_cases e : k' = k
      · subst e
        exact setTo_hit hl hn hu hh
      · exact setTo_ok hl n (entsTo_ok hi hj hn k (by omega) (.inr ⟨k', by omega, hu⟩)) hh
theorem monsTo_ok {ns : List Nd} {n : Nat} {ms : List Mo} {ps : List Pr} {j : Nat} (hn : j < n) : ∀ i, i ≤ ms.length →
    (∃ i' < i, ∃ k < (ms.getD i' default).ents.length, (undL ns n ((ms.getD i' default).ents.getD k default).body.toNat).getD j false = true) → HomOk ms ps ((monsTo ns n ms i).getD j (0, 0, 0))
  | 0, _, ⟨i', h, _⟩ => absurd h (Nat.not_lt_zero _)
  | i + 1, hi, ⟨i', hi', k, hk, hu⟩ => by
    rw [monsTo]
    refine entsTo_ok (by omega) (by rw [monsTo_len]; exact hn) hn _ (Nat.le_refl _) ?_
    by_cases e : i' = i
    · subst e
      exact .inr ⟨k, hk, hu⟩
    · exact .inl (monsTo_ok hn i (by omega) ⟨i', by omega, k, hk, hu⟩)
theorem prosTo_ok {ns : List Nd} {n : Nat} {ms : List Mo} {ps : List Pr} {j : Nat} (hn : j < n) : ∀ i, i ≤ ps.length →
    ((∃ i' < ms.length, ∃ k < (ms.getD i' default).ents.length, (undL ns n ((ms.getD i' default).ents.getD k default).body.toNat).getD j false = true) ∨ ∃ i' < i, (undL ns n (ps.getD i' default).body.toNat).getD j false = true) → HomOk ms ps ((prosTo ns n ms ps i).getD j (0, 0, 0))
  | 0, _, h => by
    rcases h with h | ⟨i', h, _⟩
    · exact monsTo_ok hn _ (Nat.le_refl _) h
    · omega
  | i + 1, hi, h => by
    rw [prosTo]
    have hh : HomOk ms ps ((i : Int), -1, -1) := .inl ⟨i, by omega, rfl⟩
    have hl : j < (prosTo ns n ms ps i).length := by rw [prosTo_len]; exact hn
    rcases h with h | ⟨i', hi', hu⟩
    · exact setTo_ok hl n (prosTo_ok hn i (by omega) (.inl h)) hh
    · by_cases e : i' = i
      · subst e
        exact setTo_hit hl hn hu hh
      · exact setTo_ok hl n (prosTo_ok hn i (by omega) (.inr ⟨i', by omega, hu⟩)) hh
theorem getD_mem {α : Type} [Inhabited α] {xs : List α} {x : α} (h : x ∈ xs) : ∃ i < xs.length, xs.getD i default = x := by
  obtain ⟨i, hi, rfl⟩ := List.getElem_of_mem h
  exact ⟨i, hi, by rw [List.getD_eq_getElem?_getD, List.getElem?_eq_getElem hi]; rfl⟩
/-- A node under a body has a home that is there. -/
theorem home_ok {ns : List Nd} {ms : List Mo} {ps : List Pr} {j : Nat} (hj : j < ns.length) {b : Int} (hb : b ∈ bodiesL ms ps) (hu : (undL ns ns.length b.toNat).getD j false = true) : HomOk ms ps ((homesL ns ms ps).getD j (0, 0, 0)) := by
  refine prosTo_ok hj _ (Nat.le_refl _) ?_
  rw [bodiesL, List.mem_append] at hb
  rcases hb with hb | hb
  · obtain ⟨m, hm, hb⟩ := List.mem_flatMap.1 hb
    obtain ⟨e, he, rfl⟩ := List.mem_map.1 hb
    obtain ⟨i, hi, rfl⟩ := getD_mem hm
    obtain ⟨k, hk, rfl⟩ := getD_mem he
    exact .inl ⟨i, hi, k, hk, hu⟩
  · obtain ⟨p, hp, rfl⟩ := List.mem_map.1 hb
    obtain ⟨i, hi, rfl⟩ := getD_mem hp
    exact .inr ⟨i, hi, hu⟩
end Go.Proofs.YtpdpmnkonkpheaaGreat

namespace Go.Proofs.YtpdpmnkonkpheaaGreat
open Go.RowKit

noncomputable def codeN (ns : List Nd) (ms : List Mo) (ps : List Pr) (k : Nat) (h : Hm) : Int :=
  if 0 ≤ h.1 then codeP ms (ps.getD h.1.toNat default).uses (ps.getD h.1.toNat default).vars (ns.getD k default)
  else codeM (ms.getD h.2.1.toNat default).queues (((ms.getD h.2.1.toNat default).ents.getD h.2.2.toNat default).param :: resultN :: (ms.getD h.2.1.toNat default).vars) (ns.getD k default)
/-- The first that is not zero. -/
def firstNZ : List Int → Int
  | [] => 0
  | c :: cs => if c = 0 then firstNZ cs else c
theorem firstNZ_app : ∀ (a b : List Int), (∀ c ∈ a, c = 0) → firstNZ (a ++ b) = firstNZ b
  | [], _, _ => rfl
  | c :: a, b, h => by
    show (if c = 0 then firstNZ (a ++ b) else c) = _
    rw [if_pos (h c List.mem_cons_self), firstNZ_app a b fun d hd => h d (List.mem_cons_of_mem _ hd)]
theorem firstNZ_zero {l : List Int} (h : ∀ c ∈ l, c = 0) : firstNZ l = 0 := by
  have := firstNZ_app l [] h
  rwa [List.append_nil] at this
theorem firstNZ_hit {n k : Nat} {f : Nat → Int} (hk : k < n) (h0 : ∀ j < k, f j = 0) (h1 : f k ≠ 0) : firstNZ ((List.range n).map f) = f k := by
  obtain ⟨d, rfl⟩ : ∃ d, n = k + (1 + d) := ⟨n - k - 1, by omega⟩
  rw [List.range_add, List.map_append, firstNZ_app _ _ (fun c hc => by
    obtain ⟨j, hj, rfl⟩ := List.mem_map.1 hc
    exact h0 j (List.mem_range.1 hj)), Nat.add_comm 1 d, List.range_succ_eq_map]
  show (if f (k + 0) = 0 then _ else f (k + 0)) = _
  rw [Nat.add_zero, if_neg h1]
theorem firstNZ_none {n : Nat} {f : Nat → Int} (h0 : ∀ j < n, f j = 0) : firstNZ ((List.range n).map f) = 0 :=
  firstNZ_zero fun c hc => by
    obtain ⟨j, hj, rfl⟩ := List.mem_map.1 hc
    exact h0 j (List.mem_range.1 hj)
noncomputable def specScope (x : Pg) : Int :=
  if specProgB x = false ∨ namB x.mons x.pros = false then 1
  else firstNZ ((List.range x.nodes.length).map fun k => codeN x.nodes x.mons x.pros k ((homesL x.nodes x.mons x.pros).getD k (0, 0, 0)))
theorem getD_of {α : Type} [Inhabited α] {xs : List α} {i : Nat} (h : i < xs.length) : xs.getD i default = xs[i] := by
  rw [List.getD_eq_getElem?_getD, List.getElem?_eq_getElem h]
  rfl
theorem l08Node_home (nv mv pv : Value) (ns : List Nd) (ms : List Mo) (ps : List Pr) (k : Nat) (h : Hm) (w : World) (hh : HomOk ms ps h) (hN : NdsAt w nv ns) (hM : MosAt w mv ms) (hP : PrsAt w pv ps) (hk : k < ns.length) (hml : ms.length ≤ 1048576) (hel : ∀ m ∈ ms, m.ents.length ≤ 1048576)
    (hmv : ∀ m ∈ ms, m.vars.length ≤ 1048000 ∧ m.queues.length ≤ 1048576) (hpv : ∀ p ∈ ps, p.uses.length ≤ 1048576 ∧ p.vars.length ≤ 1048576) :
    Calls Tryz.prog 30 #[.agg #[nv, mv, pv], .int .i64 (k : Int), .agg #[.int .i64 h.1, .int .i64 h.2.1, .int .i64 h.2.2]] w fun e w' => e = .returned (.int .i64 (codeN ns ms ps k h)) ∧ Below w.heap.size w w' := by
  rcases hh with ⟨i, hi, rfl⟩ | ⟨i, j, hi, hj, rfl⟩
  · have h1 := hpv _ (List.getElem_mem hi)
    have c := l08Node_pro nv mv pv ns ms ps i k w hN hM hP hi hk hml hel h1.1 h1.2
    have e : codeN ns ms ps k ((i : Int), -1, -1) = codeP ms ps[i].uses ps[i].vars ns[k] := by
      unfold codeN
      rw [if_pos (by show (0 : Int) ≤ (i : Int); omega)]
      show codeP ms (ps.getD (i : Int).toNat default).uses (ps.getD (i : Int).toNat default).vars (ns.getD k default) = _
      rw [Int.toNat_natCast, getD_of hi, getD_of hk]
    rw [e]
    exact c
  · have em : ms.getD i default = ms[i] := getD_of hi
    have h1 := hmv _ (List.getElem_mem hi)
    have hj2 : j < ms[i].ents.length := by rw [← em]; exact hj
    have c := l08Node_mon nv mv pv ns ms ps i j k w hN hM hP hi hj2 hk h1.2 h1.1
    have e : codeN ns ms ps k (-1, (i : Int), (j : Int)) = codeM ms[i].queues (ms[i].ents[j].param :: resultN :: ms[i].vars) ns[k] := by
      unfold codeN
      rw [if_neg (by show ¬ (0 : Int) ≤ -1; omega)]
      show codeM (ms.getD (i : Int).toNat default).queues (((ms.getD (i : Int).toNat default).ents.getD (j : Int).toNat default).param :: resultN :: (ms.getD (i : Int).toNat default).vars) (ns.getD k default) = _
      rw [Int.toNat_natCast, Int.toNat_natCast, em, getD_of hj2, getD_of hk]
    rw [e]
    exact c
end Go.Proofs.YtpdpmnkonkpheaaGreat

namespace Go.Proofs.YtpdpmnkonkpheaaGreat

/-- The decimal figures of a number; of 0 none. -/
def decR (n : Nat) : List Int := if n = 0 then [] else decR (n / 10) ++ [((48 + n % 10 : Nat) : Int)]

theorem decR_zero : decR 0 = [] := by rw [decR, if_pos rfl]
theorem decR_pos {n : Nat} (h : 0 < n) : decR n = decR (n / 10) ++ [((48 + n % 10 : Nat) : Int)] := by rw [decR, if_neg (by omega)]
theorem decR_len : ∀ (k n : Nat), n < 10 ^ k → (decR n).length ≤ k
  | 0, n, h => by
    have : n = 0 := by simp at h; exact h
    rw [this, decR_zero]; simp
  | k + 1, n, h => by
    rcases Nat.eq_zero_or_pos n with h0 | h0
    · rw [h0, decR_zero]; simp
    · rw [decR_pos h0]
      have := decR_len k (n / 10) (by
        rw [Nat.div_lt_iff_lt_mul (by omega)]
        have e : 10 ^ (k + 1) = 10 ^ k * 10 := Nat.pow_succ ..
        omega)
      simp; omega
theorem decR_byte (n : Nat) : ∀ c ∈ decR n, 0 ≤ c ∧ c < 256 := by
  induction n using Nat.strongRecOn with
  | _ n ih =>
    intro c hc
    rcases Nat.eq_zero_or_pos n with h0 | h0
    · rw [h0, decR_zero] at hc; cases hc
    · rw [decR_pos h0] at hc
      rcases List.mem_append.1 hc with hc | hc
      · exact ih (n / 10) (by omega) c hc
      · simp at hc; omega

/-- The decimal figures of an int. -/
def decI (n : Int) : List Int := if n = 0 then [48] else if n < 0 then 45 :: decR n.natAbs else decR n.natAbs
theorem decI_zero : decI 0 = [48] := rfl
theorem decI_neg {n : Int} (h : n < 0) : decI n = 45 :: decR n.natAbs := by rw [decI, if_neg (by omega), if_pos h]
theorem decI_pos {n : Int} (h : 0 < n) : decI n = decR n.natAbs := by rw [decI, if_neg (by omega), if_neg (by omega)]
theorem decI_byte (n : Int) : ∀ c ∈ decI n, 0 ≤ c ∧ c < 256 := by
  intro c hc
  unfold decI at hc
  split at hc
  · simp at hc; omega
  · split at hc
    · rcases List.mem_cons.1 hc with rfl | hc
      · omega
      · exact decR_byte _ c hc
    · exact decR_byte _ c hc

/-- A number's figures do not begin with 0. -/
theorem decR_head (n : Nat) : ∀ r, decR n ≠ 48 :: r := by
  induction n using Nat.strongRecOn with
  | _ n ih =>
    intro r h
    rcases Nat.eq_zero_or_pos n with h0 | h0
    · rw [h0, decR_zero] at h; cases h
    · rw [decR_pos h0] at h
      rcases Nat.eq_zero_or_pos (n / 10) with h1 | h1
      · rw [h1, decR_zero, List.nil_append] at h
        simp only [List.cons.injEq] at h
        omega
      · cases e : decR (n / 10) with
        | nil =>
          have := decR_pos h1
          rw [e] at this
          simp at this
        | cons a t =>
          rw [e, List.cons_append] at h
          simp only [List.cons.injEq] at h
          exact ih (n / 10) (by omega) t (by rw [e, h.1])

/-- What figures are worth. -/
def val10 (ds : List Int) : Int := ds.foldl (fun n d => 10 * n + d) 0
theorem val10_snoc (ds : List Int) (d : Int) : val10 (ds ++ [d]) = 10 * val10 ds + d := by simp [val10]
theorem val10_in : ∀ (k : Nat) (ds : List Int), ds.length = k → (∀ d ∈ ds, 0 ≤ d ∧ d < 10) → 0 ≤ val10 ds ∧ val10 ds < 10 ^ k
  | 0, ds, h, _ => by
    have : ds = [] := List.length_eq_zero_iff.1 h
    subst this; simp [val10]
  | k + 1, ds, h, hd => by
    rcases List.eq_nil_or_concat ds with e | ⟨es, d, e⟩
    · subst e; simp at h
    · rw [List.concat_eq_append] at e
      subst e
      have ih := val10_in k es (by simp at h; exact h) (fun x hx => hd x (by simp [hx]))
      have h1 := hd d (by simp)
      rw [val10_snoc]
      have e : (10 : Int) ^ (k + 1) = 10 ^ k * 10 := Int.pow_succ ..
      omega

/-- Figures that do not begin with 0 are the figures of what they are worth. -/
theorem decR_val : ∀ (k : Nat) (ds : List Int), ds.length = k → (∀ d ∈ ds, 0 ≤ d ∧ d < 10) → (∀ r, ds ≠ 0 :: r) → decR (val10 ds).natAbs = ds.map (48 + ·) ∧ (0 < k → 0 < val10 ds)
  | 0, ds, h, _, _ => by
    have : ds = [] := List.length_eq_zero_iff.1 h
    subst this
    exact ⟨by show decR 0 = []; exact decR_zero, by omega⟩
  | k + 1, ds, h, hd, hz => by
    rcases List.eq_nil_or_concat ds with e | ⟨es, d, e⟩
    · subst e; simp at h
    · rw [List.concat_eq_append] at e
      subst e
      have hl : es.length = k := by simp at h; exact h
      have he : ∀ x ∈ es, 0 ≤ x ∧ x < 10 := fun x hx => hd x (by simp [hx])
      have h1 := hd d (by simp)
      have hb := val10_in k es hl he
      have ih := decR_val k es hl he (fun r hr => hz (r ++ [d]) (by rw [hr]; rfl))
      rw [val10_snoc]
      have hpos : 0 < 10 * val10 es + d := by
        cases k with
        | zero =>
          have : es = [] := List.length_eq_zero_iff.1 hl
          subst this
          have : d ≠ 0 := fun e0 => hz [] (by rw [e0]; rfl)
          have e0 : val10 [] = 0 := rfl
          omega
        | succ k => have := ih.2 (by omega); omega
      refine ⟨?_, fun _ => hpos⟩
      rw [decR_pos (by omega)]
      have e1 : (10 * val10 es + d).natAbs / 10 = (val10 es).natAbs := by omega
      have e2 : (10 * val10 es + d).natAbs % 10 = d.toNat := by omega
      rw [e1, e2, ih.1, List.map_append]
      congr 1
      simp; omega

theorem decI_val {ds : List Int} (hd : ∀ d ∈ ds, 0 ≤ d ∧ d < 10) (h0 : ds ≠ []) (hz : ds = [0] ∨ ∀ r, ds ≠ 0 :: r) : decI (val10 ds) = ds.map (48 + ·) := by
  rcases hz with rfl | hz
  · rfl
  · have h := decR_val ds.length ds rfl hd hz
    have hl : 0 < ds.length := List.length_pos_iff.2 h0
    rw [decI_pos (h.2 hl), h.1]
/-- Needless noughts: never the figures of a number. -/
theorem decI_needless {n d : Int} {r : List Int} : decI n ≠ 48 :: d :: r := by
  intro h
  unfold decI at h
  split at h
  · simp at h
  · split at h
    · simp at h
    · exact decR_head _ _ h
theorem decI_ne_nil (n : Int) : decI n ≠ [] := by
  unfold decI
  split
  · simp
  · split
    · simp
    · rw [decR_pos (by omega)]
      simp
end Go.Proofs.YtpdpmnkonkpheaaGreat
