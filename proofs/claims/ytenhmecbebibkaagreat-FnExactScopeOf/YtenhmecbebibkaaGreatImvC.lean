/-
  Walks of the library: slices.Grow of nothing, slices.Concat of three rows of texts.
-/
import Derived.Test.YtenhmecbebibkaaGreatImvA
import Derived.Test.YtenhmecbebibkaaGreatAid
import Derived.Lib.AppendZeros
import Derived.Test.YtenhmecbebibkaaGreatSetW
namespace Go.Proofs.YtenhmecbebibkaaGreat
open Go.RowKit

theorem Tryz.infoStrT : ∃ i, Tryz.prog.info? 9 = some i ∧ i.zero = some (.string ⟨#[]⟩) ∧ i.size = 1 ∧ i.bytes = 16 := by
  obtain ⟨i, h1, h2⟩ := Option.map_eq_some_iff.1 Tryz.infoStr
  injection h2 with h3 h4
  injection h4 with h4 h5
  exact ⟨i, h1, h3, h4, h5⟩
theorem zeroCells_size (z : Value) (n : Nat) : (Builtin.zeroCells #[z] n).size = n := by
  unfold Builtin.zeroCells
  simp

set_option maxRecDepth 100000 in
set_option maxHeartbeats 4000000 in
theorem growNil_any (n : Nat) (w : World) (h0 : 0 < n) (hn : n ≤ 4194304) :
    Calls Tryz.prog 102 #[.slice none 0 0, .int .i64 (n : Int)] w fun e w' => ∃ v, e = .returned v ∧ OwnS w.heap.size v [] w' ∧ Below w.heap.size w w' := by
  have h1 : ¬ ((n : Int) < 0) := by omega
  have h4 : (n : Int) > 0 := by omega
  obtain ⟨i, hi, hz, hs, hby⟩ := Tryz.infoStrT
  have hr : ∀ ty, (Builtin.append_ #[51, 3] ty #[.slice none 0 0, .int .i64 (n : Int)]).run Tryz.prog w = _ := fun ty => Lib.run_append_nil_zeros w 51 3 ty 9 i (.string ⟨#[]⟩) .i64 .i64 Tryz.underlying51 Tryz.underlying3 hi hz n h0 (by omega) (by omega) (by rw [hby]; omega)
  have HR := hide hr
  have hG : n ≤ grownCap w n 0 9 := grownCap_ge w _ _ _
  have hGm : grownCap w n 0 9 ≤ maxLen := grownCap_le_maxLen w n 0 9 (by unfold maxLen; omega)
  obtain ⟨G, eG⟩ : ∃ G, grownCap w n 0 9 = G := ⟨_, rfl⟩
  rw [eG] at HR hG hGm
  clear hr hi hz hs hby eG
  obtain ⟨cs, ecs⟩ : ∃ cs, Builtin.zeroCells (Value.string ⟨#[]⟩).cells n ++ Builtin.zeroCells (Value.string ⟨#[]⟩).cells (G - n) = cs := ⟨_, rfl⟩
  have hcs : cs.size = G := by
    rw [← ecs]
    show (Builtin.zeroCells #[_] n ++ Builtin.zeroCells #[_] (G - n)).size = G
    rw [Array.size_append, zeroCells_size, zeroCells_size]
    omega
  rw [ecs] at HR
  clear ecs
  have hG63 : G ≤ 9223372036854775807 := by unfold maxLen at hGm; omega
  have HO : Hid (OwnS w.heap.size (.slice (some ⟨w.heap.size, 0, none⟩) 0 G) [] (w.drew.alloc (.cells cs 9))) :=
    ⟨rfl, .inr ⟨w.heap.size, G, cs, rfl, Nat.le_refl _, Box.made w.drew cs 9, Nat.zero_le _, hGm, by omega, by simp⟩⟩
  have HB : Hid (Below w.heap.size w (w.drew.alloc (.cells cs 9))) := (Below.refl _ _).drew.alloc (Nat.le_refl _) _
  go_enter Tryz.func102, Tryz.ntmps102
  go_wp2_with (at_builtin; refine Lib.wpList_append_run _ rfl _ _ _ _ rfl _ _ rfl rfl _ _ (HR.out _) ?_)
  go_ret
  exact ⟨_, rfl, HO.out, HB.out⟩

/-- A row of rows of texts. -/
def RowsS (w : World) (v : Value) (xss : List (List ByteArray)) : Prop :=
  ∃ ao c, v = .slice ao xss.length c ∧ ∀ j (h : j < xss.length), ∃ a u, ao = some a ∧ a.block < w.heap.size ∧ w.cell? (a.add j) = some u ∧ StrsAt w u xss[j]
theorem RowsS.stays {w w' : World} {v : Value} {xss : List (List ByteArray)} (h : RowsS w v xss) (hb : Below w.heap.size w w') : RowsS w' v xss := by
  obtain ⟨ao, c, rfl, hc⟩ := h
  refine ⟨ao, c, rfl, fun j hj => ?_⟩
  obtain ⟨a, u, rfl, ha, hx, hu⟩ := hc j hj
  exact ⟨a, u, rfl, Nat.lt_of_lt_of_le ha hb.size, (hb.cell (by rw [block_add]; exact ha)).trans hx, hu.stays hb⟩
def CcR (w : World) (xss : List (List ByteArray)) (sv iv : Value) (wr : World) : Prop :=
  ∃ i : Nat, i ≤ xss.length ∧ iv = .int .i64 i ∧ sv = .int .i64 ((xss.take i).flatten.length : Nat) ∧ wr = w
def CdR (w : World) (xss : List (List ByteArray)) (v iv : Value) (wr : World) : Prop :=
  ∃ i : Nat, i ≤ xss.length ∧ iv = .int .i64 i ∧ Hid (OwnS w.heap.size v (xss.take i).flatten wr) ∧ Hid (Below w.heap.size w wr) ∧ Hid (w.heap.size ≤ wr.heap.size)
theorem flat_take_le (xss : List (List ByteArray)) (i : Nat) : (xss.take i).flatten.length ≤ xss.flatten.length := by
  have h : xss.flatten = (xss.take i).flatten ++ (xss.drop i).flatten := by rw [← List.flatten_append, List.take_append_drop]
  rw [h, List.length_append]
  omega

set_option maxRecDepth 100000 in
set_option maxHeartbeats 4000000 in
theorem concat_any (v : Value) (xss : List (List ByteArray)) (w : World) (h : RowsS w v xss) (hl : xss.length ≤ 1048576) (h0 : 0 < xss.flatten.length) (hm : xss.flatten.length ≤ 4194304) :
    Calls Tryz.prog 76 #[v] w fun e w' => ∃ v, e = .returned v ∧ OwnS w.heap.size v xss.flatten w' ∧ Below w.heap.size w w' := by
  have H := hide h
  have H0 := hide h0
  have HM := hide hm
  have CG := fun n z h0 hn => hide (growNil_any n z h0 hn)
  obtain ⟨ao, c, rfl, _⟩ := h
  obtain ⟨n, en⟩ : ∃ n, xss.length = n := ⟨_, rfl⟩
  have EN := hide en
  rw [en] at H hl ⊢
  clear en h0 hm
  go_enter Tryz.func76, Tryz.ntmps76
  go_wp2
  go_loopw [3, 11] (CcR w xss) (fun _ iv _ => n - (intOf iv).toNat)
  case atStart => exact ⟨0, by omega, rfl, by simp, rfl⟩
  case round =>
    obtain ⟨i, hi, rfl, rfl, ewr⟩ := hrel
    subst ewr
    rw [EN.out] at hi
    have hs1 : (xss.take i).flatten.length ≤ 4194304 := Nat.le_trans (flat_take_le xss i) HM.out
    by_cases hlt : i < n
    · have hlt' : (i : Int) < (n : Int) := by omega
      have hi0 : (0 : Int) ≤ (i : Int) := by omega
      have hix : i < xss.length := by rw [EN.out]; exact hlt
      have hs2 : (xss.take (i + 1)).flatten.length ≤ 4194304 := Nat.le_trans (flat_take_le xss (i + 1)) HM.out
      have HT : Hid ((xss.take (i + 1)).flatten.length = (xss.take i).flatten.length + xss[i].length) := by
        show _ = _
        rw [List.take_succ_eq_append_getElem hix, List.flatten_append, List.length_append]
        simp
      obtain ⟨ao', cc, e5, hc⟩ := H.out
      injection e5 with e6 e7 e8
      subst e6
      obtain ⟨a, u, rfl, _, hx, ⟨uo, uc, rfl, _⟩⟩ := hc i hix
      rw [HT.out] at hs2
      obtain ⟨l, el⟩ : ∃ l, xss[i].length = l := ⟨_, rfl⟩
      rw [el] at HT hx hs2
      clear hc e7 e8 el
      obtain ⟨s, es⟩ : ∃ s, (xss.take i).flatten.length = s := ⟨_, rfl⟩
      rw [es] at HT hs1 hs2 ⊢
      clear es
      have hw : wrap64 ((s : Int) + (l : Int)) = (s : Int) + (l : Int) := by unfold wrap64; omega
      have hw2 : ¬ ((s : Int) + (l : Int) < 0) := by omega
      go_wp2
      go_roundw
      case rel => exact ⟨i + 1, by rw [EN.out]; omega, by go_num, by rw [HT.out, Int.natCast_add], rfl⟩
      case measure => simp [intOf]; omega
    · have hlt' : ¬ (i : Int) < (n : Int) := by omega
      have e9 : xss.take i = xss := List.take_of_length_le (by rw [EN.out]; omega)
      rw [e9]
      obtain ⟨t, et⟩ : ∃ t, xss.flatten.length = t := ⟨_, rfl⟩
      have CG1 := CG t wr (by rw [← et]; exact H0.out) (by rw [← et]; exact HM.out)
      rw [et]
      clear CG et
      go_wp2_with fail
      refine (unhide CG1).mono ?_
      rintro e w1 ⟨v1, rfl, ho1, hb1⟩
      have O1 := hide ho1
      have B1 := hide hb1
      clear ho1 hb1 CG1
      obtain ⟨w, ew⟩ : ∃ w, w = wr := ⟨_, rfl⟩
      subst ew
      go_wp2
      go_loopw [6, 27] (CdR w xss) (fun _ iv _ => n - (intOf iv).toNat)
      case atStart => exact ⟨0, by omega, rfl, O1.out, B1.out, B1.out.size⟩
      case round =>
        clear O1 B1
        obtain ⟨i, hi, rfl, HO, HB, HZ⟩ := hrel
        rw [EN.out] at hi
        by_cases hlt : i < n
        · have hlt' : (i : Int) < (n : Int) := by omega
          have hi0 : (0 : Int) ≤ (i : Int) := by omega
          have hix : i < xss.length := by rw [EN.out]; exact hlt
          have HLL : Hid ((xss.take i).flatten.length + xss[i].length ≤ 4194304) := by
            have := flat_take_le xss (i + 1)
            rw [List.take_succ_eq_append_getElem hix, List.flatten_append, List.length_append] at this
            rw [List.flatten_cons, List.flatten_nil, List.append_nil] at this
            exact Nat.le_trans this HM.out
          have HT : Hid ((xss.take (i + 1)).flatten = (xss.take i).flatten ++ xss[i]) := by
            show _ = _
            rw [List.take_succ_eq_append_getElem hix, List.flatten_append]
            simp
          obtain ⟨ao', cc, e5, hc⟩ := H.out.stays HB.out
          injection e5 with e6 e7 e8
          subst e6
          obtain ⟨a, u, rfl, _, hx, hu⟩ := hc i hix
          obtain ⟨L, eL⟩ : ∃ L, (xss.take i).flatten = L := ⟨_, rfl⟩
          obtain ⟨K, eK⟩ : ∃ K, xss[i] = K := ⟨_, rfl⟩
          rw [eL, eK] at HLL HT
          rw [eL] at HO
          rw [eK] at hu
          have HU := hide hu
          clear hc e7 e8 eL eK hu
          go_wp2_with (at_builtin; refine wpList_app_strs rfl (.tmp 31) (.tmp 32) 51 rfl w.heap.size 9 (.string ⟨#[]⟩) 16 Tryz.underlying51 Tryz.infoStr rfl _ L.length _ rfl HO.out _ K rfl HU.out (by have := HLL.out; unfold maxLen; omega) (by have := HLL.out; omega) HZ.out ?_)
          intro v2 w2 hown2 hb2 _
          have O2 : Hid (OwnS w.heap.size v2 (xss.take (i + 1)).flatten w2) := by
            rw [HT.out]
            exact OwnS.more hown2
          have B2 : Hid (Below w.heap.size w w2) := HB.out.trans hb2
          clear hown2 hb2 HO HB HU hx
          go_wp2
          go_roundw
          case rel => exact ⟨i + 1, by rw [EN.out]; omega, by go_num, O2.out, B2.out, B2.out.size⟩
          case measure => simp [intOf]; omega
        · have hlt' : ¬ (i : Int) < (n : Int) := by omega
          have e9 : xss.take i = xss := List.take_of_length_le (by rw [EN.out]; omega)
          rw [e9] at HO
          go_wp2
          go_ret
          exact ⟨_, rfl, HO.out, HB.out⟩
end Go.Proofs.YtenhmecbebibkaaGreat

namespace Go.Proofs.YtenhmecbebibkaaGreat
open Go.RowKit

theorem rows3 (w : World) (va vb : Value) (xs ys : List ByteArray) (s : ByteArray) (ha : StrsAt w va xs) (hb : StrsAt w vb ys) :
    RowsS ((w.alloc (.cells #[.string s] 9)).alloc (.cells #[va, vb, .slice (some ⟨w.heap.size, 0, none⟩) 1 1] 51)) (.slice (some ⟨w.heap.size + 1, 0, none⟩) 3 3) [xs, ys, [s]] := by
  have h1 : Below w.heap.size w (w.alloc (.cells #[.string s] 9)) := (Below.refl _ _).alloc (Nat.le_refl _) _
  have hz : (w.alloc (.cells #[.string s] 9)).heap.size = w.heap.size + 1 := by simp
  have h2 : Below w.heap.size w ((w.alloc (.cells #[.string s] 9)).alloc (.cells #[va, vb, .slice (some ⟨w.heap.size, 0, none⟩) 1 1] 51)) := h1.alloc h1.size _
  have hn : ∀ j, ((w.alloc (.cells #[.string s] 9)).alloc (.cells #[va, vb, .slice (some ⟨w.heap.size, 0, none⟩) 1 1] 51)).cell? ⟨w.heap.size + 1, j, none⟩ = #[va, vb, .slice (some ⟨w.heap.size, 0, none⟩) 1 1][j]? := fun j => by
    rw [← hz, World.cell?_alloc_new]
  have hlt : w.heap.size + 1 < ((w.alloc (.cells #[.string s] 9)).alloc (.cells #[va, vb, .slice (some ⟨w.heap.size, 0, none⟩) 1 1] 51)).heap.size := by simp
  refine ⟨_, _, rfl, fun j hj => ?_⟩
  match j, hj with
  | 0, _ => exact ⟨_, _, rfl, hlt, by rw [add_zero_at, hn]; rfl, ha.stays h2⟩
  | 1, _ => exact ⟨_, _, rfl, hlt, by rw [add_zero_at, hn]; rfl, hb.stays h2⟩
  | 2, _ =>
    refine ⟨_, _, rfl, hlt, by rw [add_zero_at, hn]; rfl, ⟨_, _, rfl, fun k hk => ?_⟩⟩
    have e0 : k = 0 := by simp at hk; omega
    subst e0
    refine ⟨_, rfl, by simp; omega, ?_⟩
    rw [add_zero_at, World.cell?_alloc_old _ _ _ (by simp), World.cell?_alloc_new]
    rfl
theorem entOkB_turn (m : Mo) (e : En) : entOkB m e = unlikeB [m.vars, m.queues, [e.param]].flatten := by
  unfold entOkB
  refine unlike_perm ?_
  show ([e.param] ++ m.vars ++ m.queues).Perm (m.vars ++ (m.queues ++ ([e.param] ++ [])))
  rw [List.append_nil, List.append_assoc, ← List.append_assoc m.vars]
  exact List.perm_append_comm

set_option maxRecDepth 100000 in
set_option maxHeartbeats 4000000 in
theorem monUnlike_any (vv qv ev : Value) (m : Mo) (w : World) (hV : StrsAt w vv m.vars) (hQ : StrsAt w qv m.queues) (hE : EnsAt w ev m.ents) (hI : MoIn m) (hT : 1 + m.vars.length + m.queues.length ≤ 1048576) :
    Calls Tryz.prog 49 #[.agg #[.string m.name, vv, qv, ev]] w fun e w' => e = .returned (.bool (monOkB m)) ∧ Below w.heap.size w w' := by
  have hb1 : Below w.heap.size w (w.alloc (.cells #[.string m.name, vv, qv, ev] 54)) := (Below.refl _ _).alloc (Nat.le_refl _) _
  have HE := hide (hE.stays hb1)
  have HV := hide (hV.stays hb1)
  have HQ := hide (hQ.stays hb1)
  have HB := hide hb1
  have HX := hide (Box.made w #[.string m.name, vv, qv, ev] 54)
  have HI := hide hI
  have HT := hide hT
  have CU := fun v xs z h hl hs => hide (implUnlike_any v xs z h hl hs)
  have CC := fun v xss z h hl h0 hm => hide (concat_any v xss z h hl h0 hm)
  have CE := fun z h => hide (entryNames_any m.name vv qv ev m.ents z hV.sl hQ.sl h hI.len)
  obtain ⟨vo, vc, rfl, _⟩ := hV
  obtain ⟨qo, qc, rfl, _⟩ := hQ
  obtain ⟨eo, ec, rfl, _⟩ := hE
  clear hb1 hI hT
  obtain ⟨R, eR⟩ : ∃ R, monOkB m = R := ⟨_, rfl⟩
  have ER := hide eR
  rw [eR]
  clear eR
  have hl : m.ents.length ≤ 1048576 := HI.out.len
  obtain ⟨n, en⟩ : ∃ n, m.ents.length = n := ⟨_, rfl⟩
  have EN := hide en
  rw [en] at HE HB HV HQ HX hl CE ⊢
  clear en
  go_enter Tryz.func49, Tryz.ntmps49
  go_wp2
  obtain ⟨W1, hW⟩ : ∃ W1, w.alloc (.cells #[.string m.name, .slice vo m.vars.length vc, .slice qo m.queues.length qc, .slice eo n ec] 54) = W1 := ⟨_, rfl⟩
  rw [hW] at HE HX HB HV HQ ⊢
  clear hW
  go_loopw [8] (UsR W1 n (fun j => ∀ h : j < m.ents.length, entOkB m m.ents[j] = true)) (fun iv _ => n - (intOf iv).toNat)
  case atStart => exact ⟨0, by omega, rfl, Below.refl _ _, fun j hj => absurd hj (Nat.not_lt_zero j)⟩
  case round =>
    obtain ⟨i, hi, rfl, HB2, HG⟩ := hrel
    have p0 := Lib.cell_of_heap (HX.out.stays HB2.out) 0
    have p1 := Lib.cell_of_heap (HX.out.stays HB2.out) 1
    have p2 := Lib.cell_of_heap (HX.out.stays HB2.out) 2
    have p3 := Lib.cell_of_heap (HX.out.stays HB2.out) 3
    simp at p0 p1 p2 p3
    by_cases hlt : i < n
    · have hlt' : (i : Int) < (n : Int) := by omega
      have hi0 : (0 : Int) ≤ (i : Int) := by omega
      have hix : i < m.ents.length := by rw [EN.out]; exact hlt
      have HPS := hide (HI.out.ents _ (List.getElem_mem hix)).2
      obtain ⟨eo', ec', e5, hec⟩ := HE.out.stays HB2.out
      injection e5 with e6 e7 e8
      subst e6
      obtain ⟨b, rfl, hbb, hy⟩ := hec i hix
      obtain ⟨r, hra⟩ : ∃ r, b.add (i * 3) = r := ⟨_, rfl⟩
      rw [hra] at hy
      have HBAD : Hid (entOkB m m.ents[i] = false → R = false) := fun h => by rw [← ER.out]; exact monOkB_ent hix h
      have HGOOD : Hid (entOkB m m.ents[i] = true → ∀ k, k < i + 1 → ∀ h : k < m.ents.length, entOkB m m.ents[k] = true) := fun h k hk hk2 => by
        by_cases e : k = i
        · subst e; exact h
        · exact HG.out k (by omega) hk2
      obtain ⟨x, ex⟩ : ∃ x, m.ents[i] = x := ⟨_, rfl⟩
      rw [ex] at hy HBAD HGOOD HPS
      obtain ⟨d0, d1, d2⟩ := hy
      clear ex hec e7 e8 hbb hix HG
      have HBA : Hid (Below wr.heap.size wr (wr.alloc (.cells #[.string x.name, .string x.param, .int .i64 x.body] 81))) := (Below.refl _ _).alloc (Nat.le_refl _) _
      have HR := hide (rows3 (wr.alloc (.cells #[.string x.name, .string x.param, .int .i64 x.body] 81)) (.slice vo m.vars.length vc) (.slice qo m.queues.length qc) m.vars m.queues x.param ((HV.out.stays HB2.out).stays HBA.out) ((HQ.out.stays HB2.out).stays HBA.out))
      have HB3 : Hid (Below wr.heap.size wr (((wr.alloc (.cells #[.string x.name, .string x.param, .int .i64 x.body] 81)).alloc (.cells #[.string x.param] 9)).alloc (.cells #[.slice vo m.vars.length vc, .slice qo m.queues.length qc, .slice (some ⟨(wr.alloc (.cells #[.string x.name, .string x.param, .int .i64 x.body] 81)).heap.size, 0, none⟩) 1 1] 51))) := (HBA.out.alloc HBA.out.size _).alloc (HBA.out.alloc HBA.out.size _).size _
      have hsz : (wr.alloc (.cells #[.string x.name, .string x.param, .int .i64 x.body] 81)).heap.size = wr.heap.size + 1 := by simp
      rw [hsz] at HR HB3
      have hfl : [m.vars, m.queues, [x.param]].flatten.length = m.vars.length + m.queues.length + 1 := by
        show (m.vars ++ (m.queues ++ ([x.param] ++ []))).length = _
        simp only [List.length_append, List.length_cons, List.length_nil]
        omega
      have CC1 := CC _ _ _ HR.out (by show 3 ≤ 1048576; omega) (by rw [hfl]; omega) (by rw [hfl]; have := HT.out; omega)
      have HFL := hide hfl
      have HSS : Hid (∀ s ∈ [m.vars, m.queues, [x.param]].flatten, s.size ≤ 1048576) := fun s hs => by
        have hs2 : s ∈ m.vars ++ (m.queues ++ ([x.param] ++ [])) := hs
        simp only [List.mem_append, List.mem_singleton, List.append_nil] at hs2
        rcases hs2 with h | h | h
        · exact HI.out.vars.2 s h
        · exact HI.out.queues.2 s h
        · rw [h]; exact HPS.out
      have HTU := hide (entOkB_turn m x)
      have q1 := Lib.cell_of_heap ((HX.out.stays HB2.out).stays HBA.out) 1
      have q2 := Lib.cell_of_heap ((HX.out.stays HB2.out).stays HBA.out) 2
      simp only [List.getElem?_toArray, List.getElem?_cons_succ, List.getElem?_cons_zero] at q1 q2
      clear HR hsz hfl CC p1 p2
      obtain ⟨ys, eys⟩ : ∃ ys, [m.vars, m.queues, [x.param]].flatten = ys := ⟨_, rfl⟩
      rw [eys] at CC1 HFL HSS HTU
      clear eys
      go_wp2_with fail
      refine (unhide CC1).mono ?_
      rintro e w5 ⟨v5, rfl, ho5, hb5⟩
      have HB5 : Hid (Below W1.heap.size W1 w5) := HB2.out.trans ((HB3.out.trans (hb5.mono HB3.out.size)).mono HB2.out.size)
      have CN := CU v5 ys w5 (StrsAt.own ho5) (by rw [HFL.out]; have := HT.out; omega) HSS.out
      rw [← HTU.out] at CN
      clear ho5 hb5 HB3 CC1 d0 d1 d2 p0 p3 q1 q2
      cases hq : entOkB m x with
      | false =>
        rw [hq] at CN
        have eR2 : R = false := HBAD.out hq
        subst eR2
        clear hq
        go_wp2_with (go_at_call 50; refine (unhide CN).mono ?_; rintro e w8 ⟨rfl, hb8⟩)
        go_ret
        exact ⟨rfl, HB.out.trans ((HB5.out.trans (hb8.mono HB5.out.size)).mono HB.out.size)⟩
      | true =>
        rw [hq] at CN
        have GG := hide (HGOOD.out hq)
        clear hq
        go_wp2_with (go_at_call 50; refine (unhide CN).mono ?_; rintro e w8 ⟨rfl, hb8⟩)
        have E8 : Hid (Below W1.heap.size W1 w8) := HB5.out.trans (hb8.mono HB5.out.size)
        clear hb8
        go_roundw
        case rel => exact ⟨i + 1, by omega, by go_num, E8.out, GG.out⟩
        case measure => simp [intOf]; omega
    · have hlt' : ¬ (i : Int) < (n : Int) := by omega
      have HRR : Hid (R = unlikeB (m.ents.map En.name)) := by
        show _ = _
        rw [← ER.out]
        unfold monOkB
        rw [allB_yes fun k hk => HG.out k (by have := hk; rw [EN.out] at this; omega) hk, Bool.true_and]
      clear HG
      have CE1 := CE wr (HE.out.stays HB2.out)
      go_wp2_with fail
      refine (unhide CE1).mono ?_
      rintro e w5 ⟨v5, rfl, ho5, hb5⟩
      have HB5 : Hid (Below W1.heap.size W1 w5) := HB2.out.trans (hb5.mono HB2.out.size)
      have CN := CU v5 _ w5 (StrsAt.own ho5) (by rw [List.length_map, EN.out]; exact hl) (fun s hs => by
        obtain ⟨y, hy, rfl⟩ := List.mem_map.1 hs
        exact (HI.out.ents y hy).1)
      rw [← HRR.out] at CN
      clear ho5 hb5 CE1
      go_wp2_with (go_at_call 50; refine (unhide CN).mono ?_; rintro e w8 ⟨rfl, hb8⟩)
      go_ret
      exact ⟨rfl, HB.out.trans ((HB5.out.trans (hb8.mono HB5.out.size)).mono HB.out.size)⟩
end Go.Proofs.YtenhmecbebibkaaGreat
