/-
  Walks of the library: slices.Grow of nothing, slices.Concat of three rows of texts.
-/
import Derived.Test.YtpdpmnkonkpheaaGreatNamW
import Derived.Test.YtpdpmnkonkpheaaGreatAid
import Derived.Lib.AppendZeros
import Derived.Test.YtpdpmnkonkpheaaGreatImvF
import Derived.Test.YtpdpmnkonkpheaaGreatImvB
import Derived.Maps.AppendAt
namespace Go.Proofs.YtpdpmnkonkpheaaGreat
open Go.RowKit

theorem Tryz.infoStrT : ∃ i, Tryz.prog.info? 9 = some i ∧ i.zero = some (.string ⟨#[]⟩) ∧ i.size = 1 ∧ i.bytes = 16 := by
  obtain ⟨i, h1, h2⟩ := Option.map_eq_some_iff.1 Tryz.infoStr
  injection h2 with h3 h4
  injection h4 with h4 h5
  exact ⟨i, h1, h3, h4, h5⟩
theorem zeroCells_size (z : Value) (n : Nat) : (Builtin.zeroCells #[z] n).size = n := by
  unfold Builtin.zeroCells
  simp

set_option maxRecDepth 100000 in
set_option maxHeartbeats 4000000 in
theorem growNil_any (n : Nat) (w : World) (h0 : 0 < n) (hn : n ≤ 4194304) :
    Calls Tryz.prog 113 #[.slice none 0 0, .int .i64 (n : Int)] w fun e w' => ∃ v, e = .returned v ∧ OwnS w.heap.size v [] w' ∧ Below w.heap.size w w' := by
  have h1 : ¬ ((n : Int) < 0) := by omega
  have h4 : (n : Int) > 0 := by omega
  obtain ⟨i, hi, hz, hs, hby⟩ := Tryz.infoStrT
  have hr : ∀ ty, (Builtin.append_ #[47, 3] ty #[.slice none 0 0, .int .i64 (n : Int)]).run Tryz.prog w = _ := fun ty => Lib.run_append_nil_zeros w 47 3 ty 9 i (.string ⟨#[]⟩) .i64 .i64 Tryz.underlying47 Tryz.underlying3 hi hz n h0 (by omega) (by omega) (by rw [hby]; omega)
  have HR := hide hr
  have hG : n ≤ grownCap w n 0 9 := grownCap_ge w _ _ _
  have hGm : grownCap w n 0 9 ≤ maxLen := grownCap_le_maxLen w n 0 9 (by unfold maxLen; omega)
  obtain ⟨G, eG⟩ : ∃ G, grownCap w n 0 9 = G := ⟨_, rfl⟩
  rw [eG] at HR hG hGm
  clear hr hi hz hs hby eG
  obtain ⟨cs, ecs⟩ : ∃ cs, Builtin.zeroCells (Value.string ⟨#[]⟩).cells n ++ Builtin.zeroCells (Value.string ⟨#[]⟩).cells (G - n) = cs := ⟨_, rfl⟩
  have hcs : cs.size = G := by
    rw [← ecs]
    show (Builtin.zeroCells #[_] n ++ Builtin.zeroCells #[_] (G - n)).size = G
    rw [Array.size_append, zeroCells_size, zeroCells_size]
    omega
  rw [ecs] at HR
  clear ecs
  have hG63 : G ≤ 9223372036854775807 := by unfold maxLen at hGm; omega
  have HO : Hid (OwnS w.heap.size (.slice (some ⟨w.heap.size, 0, none⟩) 0 G) [] (w.drew.alloc (.cells cs 9))) :=
    ⟨rfl, .inr ⟨w.heap.size, G, cs, rfl, Nat.le_refl _, Box.made w.drew cs 9, Nat.zero_le _, hGm, by omega, by simp⟩⟩
  have HB : Hid (Below w.heap.size w (w.drew.alloc (.cells cs 9))) := (Below.refl _ _).drew.alloc (Nat.le_refl _) _
  go_enter Tryz.func113, Tryz.ntmps113
  go_wp2_with (at_builtin; refine Lib.wpList_append_run _ rfl _ _ _ _ rfl _ _ rfl rfl _ _ (HR.out _) ?_)
  go_ret
  exact ⟨_, rfl, HO.out, HB.out⟩

/-- A row of rows of texts. -/
def RowsS (w : World) (v : Value) (xss : List (List ByteArray)) : Prop :=
  ∃ ao c, v = .slice ao xss.length c ∧ ∀ j (h : j < xss.length), ∃ a u, ao = some a ∧ a.block < w.heap.size ∧ w.cell? (a.add j) = some u ∧ StrsAt w u xss[j]
theorem RowsS.stays {w w' : World} {v : Value} {xss : List (List ByteArray)} (h : RowsS w v xss) (hb : Below w.heap.size w w') : RowsS w' v xss := by
  obtain ⟨ao, c, rfl, hc⟩ := h
  refine ⟨ao, c, rfl, fun j hj => ?_⟩
  obtain ⟨a, u, rfl, ha, hx, hu⟩ := hc j hj
  exact ⟨a, u, rfl, Nat.lt_of_lt_of_le ha hb.size, (hb.cell (by rw [block_add]; exact ha)).trans hx, hu.stays hb⟩
def CcR (w : World) (xss : List (List ByteArray)) (sv iv : Value) (wr : World) : Prop :=
  ∃ i : Nat, i ≤ xss.length ∧ iv = .int .i64 i ∧ sv = .int .i64 ((xss.take i).flatten.length : Nat) ∧ wr = w
def CdR (w : World) (xss : List (List ByteArray)) (v iv : Value) (wr : World) : Prop :=
  ∃ i : Nat, i ≤ xss.length ∧ iv = .int .i64 i ∧ Hid (OwnS w.heap.size v (xss.take i).flatten wr) ∧ Hid (Below w.heap.size w wr) ∧ Hid (w.heap.size ≤ wr.heap.size)
theorem flat_take_le (xss : List (List ByteArray)) (i : Nat) : (xss.take i).flatten.length ≤ xss.flatten.length := by
  have h : xss.flatten = (xss.take i).flatten ++ (xss.drop i).flatten := by rw [← List.flatten_append, List.take_append_drop]
  rw [h, List.length_append]
  omega

set_option maxRecDepth 100000 in
set_option maxHeartbeats 4000000 in
theorem concat_any (v : Value) (xss : List (List ByteArray)) (w : World) (h : RowsS w v xss) (hl : xss.length ≤ 1048576) (h0 : 0 < xss.flatten.length) (hm : xss.flatten.length ≤ 4194304) :
    Calls Tryz.prog 91 #[v] w fun e w' => ∃ v, e = .returned v ∧ OwnS w.heap.size v xss.flatten w' ∧ Below w.heap.size w w' := by
  have H := hide h
  have H0 := hide h0
  have HM := hide hm
  have CG := fun n z h0 hn => hide (growNil_any n z h0 hn)
  obtain ⟨ao, c, rfl, _⟩ := h
  obtain ⟨n, en⟩ : ∃ n, xss.length = n := ⟨_, rfl⟩
  have EN := hide en
  rw [en] at H hl ⊢
  clear en h0 hm
  go_enter Tryz.func91, Tryz.ntmps91
  go_wp2
  go_loopw [3, 11] (CcR w xss) (fun _ iv _ => n - (intOf iv).toNat)
  case atStart => exact ⟨0, by omega, rfl, by simp, rfl⟩
  case round =>
    obtain ⟨i, hi, rfl, rfl, ewr⟩ := hrel
    subst ewr
    rw [EN.out] at hi
    have hs1 : (xss.take i).flatten.length ≤ 4194304 := Nat.le_trans (flat_take_le xss i) HM.out
    by_cases hlt : i < n
    · have hlt' : (i : Int) < (n : Int) := by omega
      have hi0 : (0 : Int) ≤ (i : Int) := by omega
      have hix : i < xss.length := by rw [EN.out]; exact hlt
      have hs2 : (xss.take (i + 1)).flatten.length ≤ 4194304 := Nat.le_trans (flat_take_le xss (i + 1)) HM.out
      have HT : Hid ((xss.take (i + 1)).flatten.length = (xss.take i).flatten.length + xss[i].length) := by
        show _ = _
        rw [List.take_succ_eq_append_getElem hix, List.flatten_append, List.length_append]
        simp
      obtain ⟨ao', cc, e5, hc⟩ := H.out
      injection e5 with e6 e7 e8
      subst e6
      obtain ⟨a, u, rfl, _, hx, ⟨uo, uc, rfl, _⟩⟩ := hc i hix
      rw [HT.out] at hs2
      obtain ⟨l, el⟩ : ∃ l, xss[i].length = l := ⟨_, rfl⟩
      rw [el] at HT hx hs2
      clear hc e7 e8 el
      obtain ⟨s, es⟩ : ∃ s, (xss.take i).flatten.length = s := ⟨_, rfl⟩
      rw [es] at HT hs1 hs2 ⊢
      clear es
      have hw : wrap64 ((s : Int) + (l : Int)) = (s : Int) + (l : Int) := by unfold wrap64; omega
      have hw2 : ¬ ((s : Int) + (l : Int) < 0) := by omega
      go_wp2
      go_roundw
      case rel => exact ⟨i + 1, by rw [EN.out]; omega, by go_num, by rw [HT.out, Int.natCast_add], rfl⟩
      case measure => simp [intOf]; omega
    · have hlt' : ¬ (i : Int) < (n : Int) := by omega
      have e9 : xss.take i = xss := List.take_of_length_le (by rw [EN.out]; omega)
      rw [e9]
      obtain ⟨t, et⟩ : ∃ t, xss.flatten.length = t := ⟨_, rfl⟩
      have CG1 := CG t wr (by rw [← et]; exact H0.out) (by rw [← et]; exact HM.out)
      rw [et]
      clear CG et
      go_wp2_with fail
      refine (unhide CG1).mono ?_
      rintro e w1 ⟨v1, rfl, ho1, hb1⟩
      have O1 := hide ho1
      have B1 := hide hb1
      clear ho1 hb1 CG1
      obtain ⟨w, ew⟩ : ∃ w, w = wr := ⟨_, rfl⟩
      subst ew
      go_wp2
      go_loopw [6, 27] (CdR w xss) (fun _ iv _ => n - (intOf iv).toNat)
      case atStart => exact ⟨0, by omega, rfl, O1.out, B1.out, B1.out.size⟩
      case round =>
        clear O1 B1
        obtain ⟨i, hi, rfl, HO, HB, HZ⟩ := hrel
        rw [EN.out] at hi
        by_cases hlt : i < n
        · have hlt' : (i : Int) < (n : Int) := by omega
          have hi0 : (0 : Int) ≤ (i : Int) := by omega
          have hix : i < xss.length := by rw [EN.out]; exact hlt
          have HLL : Hid ((xss.take i).flatten.length + xss[i].length ≤ 4194304) := by
            have := flat_take_le xss (i + 1)
            rw [List.take_succ_eq_append_getElem hix, List.flatten_append, List.length_append] at this
            rw [List.flatten_cons, List.flatten_nil, List.append_nil] at this
            exact Nat.le_trans this HM.out
          have HT : Hid ((xss.take (i + 1)).flatten = (xss.take i).flatten ++ xss[i]) := by
            show _ = _
            rw [List.take_succ_eq_append_getElem hix, List.flatten_append]
            simp
          obtain ⟨ao', cc, e5, hc⟩ := H.out.stays HB.out
          injection e5 with e6 e7 e8
          subst e6
          obtain ⟨a, u, rfl, _, hx, hu⟩ := hc i hix
          obtain ⟨L, eL⟩ : ∃ L, (xss.take i).flatten = L := ⟨_, rfl⟩
          obtain ⟨K, eK⟩ : ∃ K, xss[i] = K := ⟨_, rfl⟩
          rw [eL, eK] at HLL HT
          rw [eL] at HO
          rw [eK] at hu
          have HU := hide hu
          clear hc e7 e8 eL eK hu
          go_wp2_with (at_builtin; refine wpList_app_strs rfl (.tmp 31) (.tmp 32) 47 rfl w.heap.size 9 (.string ⟨#[]⟩) 16 Tryz.underlying47 Tryz.infoStr rfl _ L.length _ rfl HO.out _ K rfl HU.out (by have := HLL.out; unfold maxLen; omega) (by have := HLL.out; omega) HZ.out ?_)
          intro v2 w2 hown2 hb2 _
          have O2 : Hid (OwnS w.heap.size v2 (xss.take (i + 1)).flatten w2) := by
            rw [HT.out]
            exact OwnS.more hown2
          have B2 : Hid (Below w.heap.size w w2) := HB.out.trans hb2
          clear hown2 hb2 HO HB HU hx
          go_wp2
          go_roundw
          case rel => exact ⟨i + 1, by rw [EN.out]; omega, by go_num, O2.out, B2.out, B2.out.size⟩
          case measure => simp [intOf]; omega
        · have hlt' : ¬ (i : Int) < (n : Int) := by omega
          have e9 : xss.take i = xss := List.take_of_length_le (by rw [EN.out]; omega)
          rw [e9] at HO
          go_wp2
          go_ret
          exact ⟨_, rfl, HO.out, HB.out⟩
end Go.Proofs.YtpdpmnkonkpheaaGreat

namespace Go.Proofs.YtpdpmnkonkpheaaGreat
open Go.RowKit

theorem rows3 (w : World) (va vb : Value) (xs ys : List ByteArray) (s : ByteArray) (ha : StrsAt w va xs) (hb : StrsAt w vb ys) :
    RowsS ((w.alloc (.cells #[.string s] 9)).alloc (.cells #[va, vb, .slice (some ⟨w.heap.size, 0, none⟩) 1 1] 47)) (.slice (some ⟨w.heap.size + 1, 0, none⟩) 3 3) [xs, ys, [s]] := by
  have h1 : Below w.heap.size w (w.alloc (.cells #[.string s] 9)) := (Below.refl _ _).alloc (Nat.le_refl _) _
  have hz : (w.alloc (.cells #[.string s] 9)).heap.size = w.heap.size + 1 := by simp
  have h2 : Below w.heap.size w ((w.alloc (.cells #[.string s] 9)).alloc (.cells #[va, vb, .slice (some ⟨w.heap.size, 0, none⟩) 1 1] 47)) := h1.alloc h1.size _
  have hn : ∀ j, ((w.alloc (.cells #[.string s] 9)).alloc (.cells #[va, vb, .slice (some ⟨w.heap.size, 0, none⟩) 1 1] 47)).cell? ⟨w.heap.size + 1, j, none⟩ = #[va, vb, .slice (some ⟨w.heap.size, 0, none⟩) 1 1][j]? := fun j => by
    rw [← hz, World.cell?_alloc_new]
  have hlt : w.heap.size + 1 < ((w.alloc (.cells #[.string s] 9)).alloc (.cells #[va, vb, .slice (some ⟨w.heap.size, 0, none⟩) 1 1] 47)).heap.size := by simp
  refine ⟨_, _, rfl, fun j hj => ?_⟩
  match j, hj with
  | 0, _ => exact ⟨_, _, rfl, hlt, by rw [add_zero_at, hn]; rfl, ha.stays h2⟩
  | 1, _ => exact ⟨_, _, rfl, hlt, by rw [add_zero_at, hn]; rfl, hb.stays h2⟩
  | 2, _ =>
    refine ⟨_, _, rfl, hlt, by rw [add_zero_at, hn]; rfl, ⟨_, _, rfl, fun k hk => ?_⟩⟩
    have e0 : k = 0 := by simp at hk; omega
    subst e0
    refine ⟨_, rfl, by simp; omega, ?_⟩
    rw [add_zero_at, World.cell?_alloc_old _ _ _ (by simp), World.cell?_alloc_new]
    rfl
theorem entOkB_turn (m : Mo) (e : En) : entOkB m e = unlikeB [m.vars, m.queues, [e.param]].flatten := by
  unfold entOkB
  refine unlike_perm ?_
  show ([e.param] ++ m.vars ++ m.queues).Perm (m.vars ++ (m.queues ++ ([e.param] ++ [])))
  rw [List.append_nil, List.append_assoc, ← List.append_assoc m.vars]
  exact List.perm_append_comm

set_option maxRecDepth 100000 in
set_option maxHeartbeats 4000000 in
theorem monUnlike_any (vv qv ev : Value) (m : Mo) (w : World) (hV : StrsAt w vv m.vars) (hQ : StrsAt w qv m.queues) (hE : EnsAt w ev m.ents) (hI : MoIn m) (hT : 1 + m.vars.length + m.queues.length ≤ 1048576) :
    Calls Tryz.prog 68 #[.agg #[.string m.name, vv, qv, ev]] w fun e w' => e = .returned (.bool (monOkB m)) ∧ Below w.heap.size w w' := by
  have hb1 : Below w.heap.size w (w.alloc (.cells #[.string m.name, vv, qv, ev] 76)) := (Below.refl _ _).alloc (Nat.le_refl _) _
  have HE := hide (hE.stays hb1)
  have HV := hide (hV.stays hb1)
  have HQ := hide (hQ.stays hb1)
  have HB := hide hb1
  have HX := hide (Box.made w #[.string m.name, vv, qv, ev] 76)
  have HI := hide hI
  have HT := hide hT
  have CU := fun v xs z h hl hs => hide (implUnlike_any v xs z h hl hs)
  have CC := fun v xss z h hl h0 hm => hide (concat_any v xss z h hl h0 hm)
  have CE := fun z h => hide (entryNames_any m.name vv qv ev m.ents z hV.sl hQ.sl h hI.len)
  obtain ⟨vo, vc, rfl, _⟩ := hV
  obtain ⟨qo, qc, rfl, _⟩ := hQ
  obtain ⟨eo, ec, rfl, _⟩ := hE
  clear hb1 hI hT
  obtain ⟨R, eR⟩ : ∃ R, monOkB m = R := ⟨_, rfl⟩
  have ER := hide eR
  rw [eR]
  clear eR
  have hl : m.ents.length ≤ 1048576 := HI.out.len
  obtain ⟨n, en⟩ : ∃ n, m.ents.length = n := ⟨_, rfl⟩
  have EN := hide en
  rw [en] at HE HB HV HQ HX hl CE ⊢
  clear en
  go_enter Tryz.func68, Tryz.ntmps68
  go_wp2
  obtain ⟨W1, hW⟩ : ∃ W1, w.alloc (.cells #[.string m.name, .slice vo m.vars.length vc, .slice qo m.queues.length qc, .slice eo n ec] 76) = W1 := ⟨_, rfl⟩
  rw [hW] at HE HX HB HV HQ ⊢
  clear hW
  go_loopw [8] (UsR W1 n (fun j => ∀ h : j < m.ents.length, entOkB m m.ents[j] = true)) (fun iv _ => n - (intOf iv).toNat)
  case atStart => exact ⟨0, by omega, rfl, Below.refl _ _, fun j hj => absurd hj (Nat.not_lt_zero j)⟩
  case round =>
    obtain ⟨i, hi, rfl, HB2, HG⟩ := hrel
    have p0 := Lib.cell_of_heap (HX.out.stays HB2.out) 0
    have p1 := Lib.cell_of_heap (HX.out.stays HB2.out) 1
    have p2 := Lib.cell_of_heap (HX.out.stays HB2.out) 2
    have p3 := Lib.cell_of_heap (HX.out.stays HB2.out) 3
    simp at p0 p1 p2 p3
    by_cases hlt : i < n
    · have hlt' : (i : Int) < (n : Int) := by omega
      have hi0 : (0 : Int) ≤ (i : Int) := by omega
      have hix : i < m.ents.length := by rw [EN.out]; exact hlt
      have HPS := hide (HI.out.ents _ (List.getElem_mem hix)).2
      obtain ⟨eo', ec', e5, hec⟩ := HE.out.stays HB2.out
      injection e5 with e6 e7 e8
      subst e6
      obtain ⟨b, rfl, hbb, hy⟩ := hec i hix
      obtain ⟨r, hra⟩ : ∃ r, b.add (i * 3) = r := ⟨_, rfl⟩
      rw [hra] at hy
      have HBAD : Hid (entOkB m m.ents[i] = false → R = false) := fun h => by rw [← ER.out]; exact monOkB_ent hix h
      have HGOOD : Hid (entOkB m m.ents[i] = true → ∀ k, k < i + 1 → ∀ h : k < m.ents.length, entOkB m m.ents[k] = true) := fun h k hk hk2 => by
        by_cases e : k = i
        · subst e; exact h
        · exact HG.out k (by omega) hk2
      obtain ⟨x, ex⟩ : ∃ x, m.ents[i] = x := ⟨_, rfl⟩
      rw [ex] at hy HBAD HGOOD HPS
      obtain ⟨d0, d1, d2⟩ := hy
      clear ex hec e7 e8 hbb hix HG
      have HBA : Hid (Below wr.heap.size wr (wr.alloc (.cells #[.string x.name, .string x.param, .int .i64 x.body] 99))) := (Below.refl _ _).alloc (Nat.le_refl _) _
      have HR := hide (rows3 (wr.alloc (.cells #[.string x.name, .string x.param, .int .i64 x.body] 99)) (.slice vo m.vars.length vc) (.slice qo m.queues.length qc) m.vars m.queues x.param ((HV.out.stays HB2.out).stays HBA.out) ((HQ.out.stays HB2.out).stays HBA.out))
      have HB3 : Hid (Below wr.heap.size wr (((wr.alloc (.cells #[.string x.name, .string x.param, .int .i64 x.body] 99)).alloc (.cells #[.string x.param] 9)).alloc (.cells #[.slice vo m.vars.length vc, .slice qo m.queues.length qc, .slice (some ⟨(wr.alloc (.cells #[.string x.name, .string x.param, .int .i64 x.body] 99)).heap.size, 0, none⟩) 1 1] 47))) := (HBA.out.alloc HBA.out.size _).alloc (HBA.out.alloc HBA.out.size _).size _
      have hsz : (wr.alloc (.cells #[.string x.name, .string x.param, .int .i64 x.body] 99)).heap.size = wr.heap.size + 1 := by simp
      rw [hsz] at HR HB3
      have hfl : [m.vars, m.queues, [x.param]].flatten.length = m.vars.length + m.queues.length + 1 := by
        show (m.vars ++ (m.queues ++ ([x.param] ++ []))).length = _
        simp only [List.length_append, List.length_cons, List.length_nil]
        omega
      have CC1 := CC _ _ _ HR.out (by show 3 ≤ 1048576; omega) (by rw [hfl]; omega) (by rw [hfl]; have := HT.out; omega)
      have HFL := hide hfl
      have HSS : Hid (∀ s ∈ [m.vars, m.queues, [x.param]].flatten, s.size ≤ 1048576) := fun s hs => by
        have hs2 : s ∈ m.vars ++ (m.queues ++ ([x.param] ++ [])) := hs
        simp only [List.mem_append, List.mem_singleton, List.append_nil] at hs2
        rcases hs2 with h | h | h
        · exact HI.out.vars.2 s h
        · exact HI.out.queues.2 s h
        · rw [h]; exact HPS.out
      have HTU := hide (entOkB_turn m x)
      have q1 := Lib.cell_of_heap ((HX.out.stays HB2.out).stays HBA.out) 1
      have q2 := Lib.cell_of_heap ((HX.out.stays HB2.out).stays HBA.out) 2
      simp only [List.getElem?_toArray, List.getElem?_cons_succ, List.getElem?_cons_zero] at q1 q2
      clear HR hsz hfl CC p1 p2
      obtain ⟨ys, eys⟩ : ∃ ys, [m.vars, m.queues, [x.param]].flatten = ys := ⟨_, rfl⟩
      rw [eys] at CC1 HFL HSS HTU
      clear eys
      go_wp2_with fail
      refine (unhide CC1).mono ?_
      rintro e w5 ⟨v5, rfl, ho5, hb5⟩
      have HB5 : Hid (Below W1.heap.size W1 w5) := HB2.out.trans ((HB3.out.trans (hb5.mono HB3.out.size)).mono HB2.out.size)
      have CN := CU v5 ys w5 (StrsAt.own ho5) (by rw [HFL.out]; have := HT.out; omega) HSS.out
      rw [← HTU.out] at CN
      clear ho5 hb5 HB3 CC1 d0 d1 d2 p0 p3 q1 q2
      cases hq : entOkB m x with
      | false =>
        rw [hq] at CN
        have eR2 : R = false := HBAD.out hq
        subst eR2
        clear hq
        go_wp2_with (go_at_call 69; refine (unhide CN).mono ?_; rintro e w8 ⟨rfl, hb8⟩)
        go_ret
        exact ⟨rfl, HB.out.trans ((HB5.out.trans (hb8.mono HB5.out.size)).mono HB.out.size)⟩
      | true =>
        rw [hq] at CN
        have GG := hide (HGOOD.out hq)
        clear hq
        go_wp2_with (go_at_call 69; refine (unhide CN).mono ?_; rintro e w8 ⟨rfl, hb8⟩)
        have E8 : Hid (Below W1.heap.size W1 w8) := HB5.out.trans (hb8.mono HB5.out.size)
        clear hb8
        go_roundw
        case rel => exact ⟨i + 1, by omega, by go_num, E8.out, GG.out⟩
        case measure => simp [intOf]; omega
    · have hlt' : ¬ (i : Int) < (n : Int) := by omega
      have HRR : Hid (R = unlikeB (m.ents.map En.name)) := by
        show _ = _
        rw [← ER.out]
        unfold monOkB
        rw [allB_yes fun k hk => HG.out k (by have := hk; rw [EN.out] at this; omega) hk, Bool.true_and]
      clear HG
      have CE1 := CE wr (HE.out.stays HB2.out)
      go_wp2_with fail
      refine (unhide CE1).mono ?_
      rintro e w5 ⟨v5, rfl, ho5, hb5⟩
      have HB5 : Hid (Below W1.heap.size W1 w5) := HB2.out.trans (hb5.mono HB2.out.size)
      have CN := CU v5 _ w5 (StrsAt.own ho5) (by rw [List.length_map, EN.out]; exact hl) (fun s hs => by
        obtain ⟨y, hy, rfl⟩ := List.mem_map.1 hs
        exact (HI.out.ents y hy).1)
      rw [← HRR.out] at CN
      clear ho5 hb5 CE1
      go_wp2_with (go_at_call 69; refine (unhide CN).mono ?_; rintro e w8 ⟨rfl, hb8⟩)
      go_ret
      exact ⟨rfl, HB.out.trans ((HB5.out.trans (hb8.mono HB5.out.size)).mono HB.out.size)⟩
end Go.Proofs.YtpdpmnkonkpheaaGreat

namespace Go.Proofs.YtpdpmnkonkpheaaGreat
open Go.RowKit

noncomputable def proNoB (p : Pr) : Bool := unlikeB p.uses && unlikeB p.vars
noncomputable def namI (ms : List Mo) (ps : List Pr) : Bool := ms.all monOkB && (ps.all proNoB && (unlikeB (ms.map Mo.name) && unlikeB (ps.map Pr.name)))
theorem namI_mon {ms : List Mo} {ps : List Pr} {i : Nat} (hi : i < ms.length) (h : monOkB ms[i] = false) : namI ms ps = false := by
  unfold namI
  rw [allB_no hi h]
  rfl
theorem namI_pro {ms : List Mo} {ps : List Pr} {i : Nat} (hi : i < ps.length) (h : proNoB ps[i] = false) : namI ms ps = false := by
  unfold namI
  rw [allB_no hi h, Bool.false_and, Bool.and_false]
theorem namI_of {ms : List Mo} {ps : List Pr} (hm : ∀ i (hi : i < ms.length), monOkB ms[i] = true) (hp : ∀ i (hi : i < ps.length), proNoB ps[i] = true) : namI ms ps = (unlikeB (ms.map Mo.name) && unlikeB (ps.map Pr.name)) := by
  unfold namI
  rw [allB_yes hm, allB_yes hp]
  rfl
theorem namB_turn (ms : List Mo) (ps : List Pr) : namB ms ps = (namI ms ps && usesB ms ps) := by
  have h : ps.all (proOkB ms) = (ps.all (useB ms) && ps.all proNoB) := by
    induction ps with
    | nil => rfl
    | cons p ps ih =>
      rw [List.all_cons, List.all_cons, List.all_cons, ih]
      have e : proOkB ms p = (useB ms p && proNoB p) := rfl
      rw [e]
      cases useB ms p <;> cases proNoB p <;> cases ps.all (useB ms) <;> cases ps.all proNoB <;> rfl
  unfold namB namI usesB
  rw [h]
  cases ms.all monOkB <;> cases ps.all (useB ms) <;> cases ps.all proNoB <;> cases (unlikeB (ms.map Mo.name) && unlikeB (ps.map Pr.name)) <;> rfl

/-- Two rows of texts that are owned, in different blocks. -/
structure R2 (B : Nat) (v1 : Value) (L1 : List ByteArray) (v2 : Value) (L2 : List ByteArray) (w : World) : Prop where
  o1 : OwnS B v1 L1 w
  o2 : OwnS B v2 L2 w
  ne : v1.ownBlock ≠ v2.ownBlock
theorem R2.symm {B : Nat} {v1 v2 : Value} {L1 L2 : List ByteArray} {w : World} (h : R2 B v1 L1 v2 L2 w) : R2 B v2 L2 v1 L1 w := ⟨h.o2, h.o1, Ne.symm h.ne⟩
theorem R2.stays {B : Nat} {v1 v2 : Value} {L1 L2 : List ByteArray} {w w' : World} (h : R2 B v1 L1 v2 L2 w) (hb : Below w.heap.size w w') : R2 B v1 L1 v2 L2 w' := ⟨ownS_stays h.o1 hb, ownS_stays h.o2 hb, h.ne⟩
theorem ownS_kept {B : Nat} {v : Value} {L : List ByteArray} {w w' : World} {row : Option Nat} (h : OwnS B v L w) (hg : w.grownBy w' row) (hne : v.ownBlock = none ∨ v.ownBlock ≠ row) : OwnS B v L w' := by
  have hlt := h.lt
  obtain ⟨h1, h2⟩ := h
  refine ⟨h1, ?_⟩
  rcases h2 with h2 | ⟨g, cap, cur, rfl, hb1, hg1, r⟩
  · exact .inl h2
  · refine .inr ⟨g, cap, cur, rfl, hb1, ?_, r⟩
    rw [hg.block g (hlt g rfl).2 (hne.resolve_left (by intro e; cases e))]
    exact hg1
theorem wpList_app_r2 {w : World} {ops : Array Oper} {rest : List Oper} {o : Oper} {a : Act} {Q : Exit → Act → World → Prop} {kb : Nat} (hkb : kb = w.heap.size) (hgd : o.guard = none) (sl x : Operand)
    (ho : o.op = .call { callee := .builtin .append, args := #[sl, x], argTypes := #[47, 47] })
    {B : Nat} {v1 v2 : Value} {L1 L2 : List ByteArray} {k : ByteArray} (h : R2 B v1 L1 v2 L2 w) (hs : a.eval sl = v1) (hx : a.eval x = .slice (some ⟨kb, 0, none⟩) 1 1) (hB : B ≤ w.heap.size) (hn : L1.length ≤ 2000000)
    (hK : ∀ v' w', R2 B v' (L1 ++ [k]) v2 L2 w' → Below B w w' → BoxesKept 9 w w' → wpList Tryz.prog ops Q rest (a.put o.dst v') w') : wpList Tryz.prog ops Q (o :: rest) a (w.alloc (.cells #[.string k] 9)) := by
  subst hkb
  obtain ⟨i, hi, hz0, hz1, hz2⟩ := info_parts Tryz.infoStr
  have hA : Below w.heap.size w (w.alloc (.cells #[.string k] 9)) := (Below.refl _ _).alloc (Nat.le_refl _) _
  have hR := h.stays hA
  have hsz : (w.alloc (.cells #[.string k] 9)).heap.size = w.heap.size + 1 := by simp
  refine wpList_append_own_at _ hgd sl x 47 ho B 9 i (.string ⟨#[]⟩) 1 16 Tryz.underlying47 hi hz0 hz1 hz2 rfl (by decide) v1 _ _ hs hR.o1 ⟨w.heap.size, 0, none⟩ 1 1 [.string k] hx rfl (fun j u hj => ?_) (by intro u hu; simp at hu; subst hu; rfl) (by unfold maxLen; omega) (by omega) (by omega) ?_
  · rw [add_zero_at, World.cell?_alloc_new]
    simpa using hj
  · intro v' w' hown hgr _ hob
    have hb2 := (Below.refl B (w.alloc (.cells #[.string k] 9))).grown hgr (by omega) (fun j hj => (hR.o1.lt j hj).1)
    refine hK v' w' ⟨OwnS.more (k := [k]) hown, ownS_kept hR.o2 hgr (.inr (Ne.symm hR.ne)), ?_⟩ ((((Below.refl B w).alloc hB _)).trans hb2) (fun g' cs T hT hbx => boxes_grown hR.o1 hgr g' cs T hT ((Below.heap_alloc w _ g' hbx.lt).trans hbx))
    rcases hob with e | e
    · rw [e]; exact hR.ne
    · rw [e]
      intro e2
      have := (h.o2.lt _ e2.symm).2
      omega
def NeR (W0 : World) (n : Nat) (L : Nat → List ByteArray) (v2 : Value) (L2 : List ByteArray) (G : Nat → Prop) (v iv : Value) (wr : World) : Prop :=
  ∃ i : Nat, i ≤ n ∧ iv = .int .i64 i ∧ Hid (R2 W0.heap.size v (L i) v2 L2 wr) ∧ Hid (Below W0.heap.size W0 wr) ∧ Hid (∀ j, j < i → G j)

set_option maxRecDepth 100000 in
set_option maxHeartbeats 4000000 in
theorem namesUnlike_any (nv mv pv : Value) (ms : List Mo) (ps : List Pr) (w : World) (hN : SlV nv) (hM : MosAt w mv ms) (hP : PrsAt w pv ps) (hml : ms.length ≤ 1048576) (hpl : ps.length ≤ 1048576) (hmi : ∀ m ∈ ms, MoIn m) (hpi : ∀ p ∈ ps, PrIn p) (hT : ∀ m ∈ ms, 1 + m.vars.length + m.queues.length ≤ 1048576) :
    Calls Tryz.prog 38 #[.agg #[nv, mv, pv]] w fun e w' => e = .returned (.bool (namI ms ps)) ∧ Below w.heap.size w w' := by
  have hb1 : Below w.heap.size w (w.alloc (.cells #[nv, mv, pv] 33)) := (Below.refl _ _).alloc (Nat.le_refl _) _
  have HM := hide (hM.stays hb1)
  have HP := hide (hP.stays hb1)
  have HX := hide (Boxed.made w nv mv pv 33)
  have HB := hide hb1
  have HS : Hid ((w.alloc (.cells #[nv, mv, pv] 33)).heap.size = w.heap.size + 1) := by show _ = _; simp
  have HMI := hide hmi
  have HPI := hide hpi
  have HT := hide hT
  have CU := fun v xs z h hl hs => hide (implUnlike_any v xs z h hl hs)
  have CM := fun vv qv ev m z h1 h2 h3 hI hT => hide (monUnlike_any vv qv ev m z h1 h2 h3 hI hT)
  clear hb1 hmi hpi hT
  obtain ⟨ao, c, rfl, _⟩ := hM
  obtain ⟨bo, d, rfl, _⟩ := hP
  obtain ⟨on, nn, cn, rfl⟩ := hN
  obtain ⟨R, eR⟩ : ∃ R, namI ms ps = R := ⟨_, rfl⟩
  have ER := hide eR
  rw [eR]
  clear eR
  go_enter Tryz.func38, Tryz.ntmps38
  go_wp2
  obtain ⟨W0, hW0⟩ : ∃ W0, w.alloc (.cells #[.slice on nn cn, .slice ao ms.length c, .slice bo ps.length d] 33) = W0 := ⟨_, rfl⟩
  rw [hW0] at HM HP HX HB HS ⊢
  clear hW0
  have O0 := hide (ownsRow_empty W0 W0.heap.size 9 (Nat.le_refl _))
  have B0 : Hid (Below W0.heap.size W0 (W0.alloc (.cells #[] 9))) := (Below.refl _ _).alloc (Nat.le_refl _) _
  have O1 := hide (ownsRow_empty (W0.alloc (.cells #[] 9)) W0.heap.size 9 B0.out.size)
  have O0' := hide (O0.out.alloc (.cells #[] 9))
  have B1 : Hid (Below W0.heap.size W0 ((W0.alloc (.cells #[] 9)).alloc (.cells #[] 9))) := B0.out.alloc B0.out.size _
  obtain ⟨n, en⟩ : ∃ n, ms.length = n := ⟨_, rfl⟩
  have EN := hide en
  obtain ⟨q, eq⟩ : ∃ q, ps.length = q := ⟨_, rfl⟩
  have EQ := hide eq
  rw [en] at HM hml
  rw [eq] at HP hpl
  rw [en, eq] at HX ⊢
  clear en eq
  have R0 : Hid (R2 W0.heap.size (.slice (some ⟨W0.heap.size, 0, none⟩) 0 0) [] (.slice (some ⟨W0.heap.size + 1, 0, none⟩) 0 0) [] ((W0.alloc (.cells #[] 9)).alloc (.cells #[] 9))) := by
    refine ⟨O0'.out, ?_, ?_⟩
    · have := O1.out
      have e : (W0.alloc (.cells #[] 9)).heap.size = W0.heap.size + 1 := by simp
      rw [e] at this
      exact this
    · intro e
      injection e with e
      simp at e
  rw [HS.out] at R0
  clear O0 O1 O0' B0
  go_loopw [3, 14] (NeR W0 n (fun i => (ms.take i).map Mo.name) (.slice (some ⟨w.heap.size + 1 + 1, 0, none⟩) 0 0) [] (fun j => ∀ h : j < ms.length, monOkB ms[j] = true)) (fun _ iv _ => n - (intOf iv).toNat)
  case atStart => exact ⟨0, by omega, rfl, by rw [HS.out]; exact R0.out, B1.out, fun j hj => absurd hj (Nat.not_lt_zero j)⟩
  case round =>
    clear R0 B1
    obtain ⟨i, hi, rfl, HO, HB2, HG⟩ := hrel
    dsimp only at HO
    obtain ⟨c0, c1, c2, _⟩ := HX.out.stays HB2.out
    by_cases hlt : i < n
    · have hlt' : (i : Int) < (n : Int) := by omega
      have hi0 : (0 : Int) ≤ (i : Int) := by omega
      have hix : i < ms.length := by rw [EN.out]; exact hlt
      have HEL := hide (HMI.out _ (List.getElem_mem hix))
      have HEM := hide (HT.out _ (List.getElem_mem hix))
      have HNX : Hid ((ms.take (i + 1)).map Mo.name = (ms.take i).map Mo.name ++ [ms[i].name]) := by show _ = _; rw [List.take_succ_eq_append_getElem hix, List.map_append]; rfl
      have HLL : Hid (((ms.take i).map Mo.name).length ≤ 1048576) := by show _ ≤ _; rw [List.length_map, List.length_take, EN.out]; omega
      have HBAD : Hid (monOkB ms[i] = false → R = false) := fun h => by rw [← ER.out]; exact namI_mon hix h
      obtain ⟨ao', cc, e5, hc⟩ := HM.out
      injection e5 with e6 e7 e8
      subst e6
      obtain ⟨a, vv, qv, ev, rfl, hab, hcell⟩ := hc i hix
      have hcell2 := hcell.stays HB2.out (by rw [block_add]; exact hab)
      have HV1 := hide hcell.vars
      have HV2 := hide hcell.queues
      have HV3 := hide hcell.ents
      obtain ⟨p, hpa⟩ : ∃ p, a.add (i * 4) = p := ⟨_, rfl⟩
      rw [hpa] at hcell2
      have HGOOD : Hid (monOkB ms[i] = true → ∀ j, j < i + 1 → ∀ h : j < ms.length, monOkB ms[j] = true) := fun h j hj hj2 => by
        by_cases e : j = i
        · subst e; exact h
        · exact HG.out j (by omega) hj2
      obtain ⟨x, ex⟩ : ∃ x, ms[i] = x := ⟨_, rfl⟩
      rw [ex] at HEL HEM HNX hcell2 HV1 HV2 HV3 HBAD HGOOD
      obtain ⟨d0, d1, d2, d3, hv1, hv2, hv3⟩ := hcell2
      obtain ⟨vo, vc, rfl, _⟩ := hv1
      obtain ⟨qo, qc, rfl, _⟩ := hv2
      obtain ⟨eo, ec, rfl, _⟩ := hv3
      clear ex hc e7 e8 hcell
      obtain ⟨L, eL⟩ : ∃ L, (ms.take i).map Mo.name = L := ⟨_, rfl⟩
      rw [eL] at HO HNX HLL
      clear eL hix HG
      have HBA : Hid (Below wr.heap.size wr (wr.alloc (.cells #[.string x.name, .slice vo x.vars.length vc, .slice qo x.queues.length qc, .slice eo x.ents.length ec] 76))) := (Below.refl _ _).alloc (Nat.le_refl _) _
      have HOA := hide (HO.out.stays HBA.out)
      have HMB := hide (Box.made wr #[.string x.name, .slice vo x.vars.length vc, .slice qo x.queues.length qc, .slice eo x.ents.length ec] 76)
      have hwz : W0.heap.size ≤ (wr.alloc (.cells #[.string x.name, .slice vo x.vars.length vc, .slice qo x.queues.length qc, .slice eo x.ents.length ec] 76)).heap.size := Nat.le_trans HB2.out.size HBA.out.size
      go_wp2_with (at_builtin; refine wpList_app_r2 (kb := wr.heap.size + 1) (by simp) rfl (.tmp 18) (.tmp 21) rfl HOA.out rfl rfl hwz (by have := HLL.out; omega) ?_)
      intro v1 w1 hr1 hb1 hk1
      rw [← HNX.out] at hr1
      have O1 := hide hr1
      have B1 : Hid (Below W0.heap.size W0 w1) := (HB2.out.alloc HB2.out.size _).trans hb1
      have M1 := hide (hk1 _ _ _ (by decide) HMB.out)
      obtain ⟨g5, eg5⟩ : ∃ g, wr.heap.size = g := ⟨_, rfl⟩
      rw [eg5] at M1 ⊢
      have p0 := Lib.cell_of_heap M1.out 0
      have p1 := Lib.cell_of_heap M1.out 1
      have p2 := Lib.cell_of_heap M1.out 2
      have p3 := Lib.cell_of_heap M1.out 3
      simp at p0 p1 p2 p3
      have CN := CM (.slice vo x.vars.length vc) (.slice qo x.queues.length qc) (.slice eo x.ents.length ec) x w1 (HV1.out.stays B1.out) (HV2.out.stays B1.out) (HV3.out.stays B1.out) HEL.out HEM.out
      clear hr1 hb1 hk1 HOA HBA HMB hwz HO eg5 d0 d1 d2 d3 c0 c1 c2 HB2
      cases hq : monOkB x with
      | false =>
        rw [hq] at CN
        have eR2 : R = false := HBAD.out hq
        subst eR2
        clear hq
        go_wp2_with (go_at_call 68; refine (unhide CN).mono ?_; rintro e w8 ⟨rfl, hb8⟩)
        go_ret
        exact ⟨rfl, HB.out.trans ((B1.out.trans (hb8.mono B1.out.size)).mono HB.out.size)⟩
      | true =>
        rw [hq] at CN
        have GG := hide (HGOOD.out hq)
        clear hq
        go_wp2_with (go_at_call 68; refine (unhide CN).mono ?_; rintro e w8 ⟨rfl, hb8⟩)
        have E8 : Hid (Below W0.heap.size W0 w8) := B1.out.trans (hb8.mono B1.out.size)
        have O8 := hide (O1.out.stays hb8)
        clear hb8
        go_roundw
        case rel => exact ⟨i + 1, by omega, by go_num, O8.out, E8.out, GG.out⟩
        case measure => simp [intOf]; omega
    · have hlt' : ¬ (i : Int) < (n : Int) := by omega
      have e9 : ms.take i = ms := List.take_of_length_le (by rw [EN.out]; omega)
      rw [e9] at HO
      have HGM : Hid (∀ k (hk : k < ms.length), monOkB ms[k] = true) := fun k hk => HG.out k (by have := hk; rw [EN.out] at this; omega) hk
      have HOS := hide HO.out.symm
      clear e9 HG HO
      go_wp2
      go_loopw [4, 30] (NeR W0 q (fun i => (ps.take i).map Pr.name) u3 (ms.map Mo.name) (fun j => ∀ h : j < ps.length, proNoB ps[j] = true)) (fun _ iv _ => q - (intOf iv).toNat)
      case atStart => exact ⟨0, by omega, rfl, HOS.out, HB2.out, fun j hj => absurd hj (Nat.not_lt_zero j)⟩
      case round =>
        clear HOS HB2 c0 c1 c2
        obtain ⟨i, hi, rfl, HO, HB2, HG⟩ := hrel
        dsimp only at HO
        obtain ⟨c0, c1, c2, _⟩ := HX.out.stays HB2.out
        by_cases hlt : i < q
        · have hlt' : (i : Int) < (q : Int) := by omega
          have hi0 : (0 : Int) ≤ (i : Int) := by omega
          have hix : i < ps.length := by rw [EQ.out]; exact hlt
          have HEL := hide (HPI.out _ (List.getElem_mem hix))
          have HNX : Hid ((ps.take (i + 1)).map Pr.name = (ps.take i).map Pr.name ++ [ps[i].name]) := by show _ = _; rw [List.take_succ_eq_append_getElem hix, List.map_append]; rfl
          have HLL : Hid (((ps.take i).map Pr.name).length ≤ 1048576) := by show _ ≤ _; rw [List.length_map, List.length_take, EQ.out]; omega
          have HBAD : Hid (proNoB ps[i] = false → R = false) := fun h => by rw [← ER.out]; exact namI_pro hix h
          obtain ⟨ao', cc, e5, hc⟩ := HP.out
          injection e5 with e6 e7 e8
          subst e6
          obtain ⟨a, uv, vv, rfl, hab, hcell⟩ := hc i hix
          have hcell2 := hcell.stays HB2.out (by rw [block_add]; exact hab)
          have HV1 := hide hcell.uses
          have HV2 := hide hcell.vars
          obtain ⟨p, hpa⟩ : ∃ p, a.add (i * 4) = p := ⟨_, rfl⟩
          rw [hpa] at hcell2
          have HGOOD : Hid (proNoB ps[i] = true → ∀ j, j < i + 1 → ∀ h : j < ps.length, proNoB ps[j] = true) := fun h j hj hj2 => by
            by_cases e : j = i
            · subst e; exact h
            · exact HG.out j (by omega) hj2
          obtain ⟨x, ex⟩ : ∃ x, ps[i] = x := ⟨_, rfl⟩
          rw [ex] at HEL HNX hcell2 HV1 HV2 HBAD HGOOD
          obtain ⟨d0, d1, d2, d3, hv1, hv2⟩ := hcell2
          obtain ⟨uo, uc, rfl, _⟩ := hv1
          obtain ⟨vo, vc, rfl, _⟩ := hv2
          clear ex hc e7 e8 hcell
          obtain ⟨L, eL⟩ : ∃ L, (ps.take i).map Pr.name = L := ⟨_, rfl⟩
          rw [eL] at HO HNX HLL
          clear eL hix HG
          have HBA : Hid (Below wr.heap.size wr (wr.alloc (.cells #[.string x.name, .slice uo x.uses.length uc, .slice vo x.vars.length vc, .int .i64 x.body] 49))) := (Below.refl _ _).alloc (Nat.le_refl _) _
          have HOA := hide (HO.out.stays HBA.out)
          have HMB := hide (Box.made wr #[.string x.name, .slice uo x.uses.length uc, .slice vo x.vars.length vc, .int .i64 x.body] 49)
          have hwz : W0.heap.size ≤ (wr.alloc (.cells #[.string x.name, .slice uo x.uses.length uc, .slice vo x.vars.length vc, .int .i64 x.body] 49)).heap.size := Nat.le_trans HB2.out.size HBA.out.size
          go_wp2_with (at_builtin; refine wpList_app_r2 (kb := wr.heap.size + 1) (by simp) rfl (.tmp 34) (.tmp 37) rfl HOA.out rfl rfl hwz (by have := HLL.out; omega) ?_)
          intro v1 w1 hr1 hb1 hk1
          rw [← HNX.out] at hr1
          have O1 := hide hr1
          have B1 : Hid (Below W0.heap.size W0 w1) := (HB2.out.alloc HB2.out.size _).trans hb1
          have M1 := hide (hk1 _ _ _ (by decide) HMB.out)
          obtain ⟨g5, eg5⟩ : ∃ g, wr.heap.size = g := ⟨_, rfl⟩
          rw [eg5] at M1 ⊢
          have p1 := Lib.cell_of_heap M1.out 1
          have p2 := Lib.cell_of_heap M1.out 2
          simp at p1 p2
          have CN1 := CU (.slice uo x.uses.length uc) x.uses w1 (HV1.out.stays B1.out) HEL.out.uses.1 HEL.out.uses.2
          clear hr1 hb1 hk1 HOA HBA HMB hwz HO eg5 d0 d1 d2 d3 c0 c1 c2 HB2
          cases hq1 : unlikeB x.uses with
          | false =>
            rw [hq1] at CN1
            have eR2 : R = false := HBAD.out (by rw [proNoB, hq1]; rfl)
            subst eR2
            clear hq1
            go_wp2_with (go_at_call 69; refine (unhide CN1).mono ?_; rintro e w8 ⟨rfl, hb8⟩)
            go_ret
            exact ⟨rfl, HB.out.trans ((B1.out.trans (hb8.mono B1.out.size)).mono HB.out.size)⟩
          | true =>
            rw [hq1] at CN1
            go_wp2_with fail
            refine (unhide CN1).mono ?_
            rintro e w8 ⟨rfl, hb8⟩
            have E8 : Hid (Below W0.heap.size W0 w8) := B1.out.trans (hb8.mono B1.out.size)
            have O8 := hide (O1.out.stays hb8)
            clear p1 p2
            have p2 := Lib.cell_of_heap (M1.out.stays hb8) 2
            simp at p2
            clear hb8 CN1
            have CN2 := CU (.slice vo x.vars.length vc) x.vars w8 (HV2.out.stays E8.out) HEL.out.vars.1 HEL.out.vars.2
            cases hq2 : unlikeB x.vars with
            | false =>
              rw [hq2] at CN2
              have eR2 : R = false := HBAD.out (by rw [proNoB, hq2, Bool.and_false])
              subst eR2
              clear hq2
              go_wp2_with (go_at_call 69; refine (unhide CN2).mono ?_; rintro e w9 ⟨rfl, hb9⟩)
              go_ret
              exact ⟨rfl, HB.out.trans ((E8.out.trans (hb9.mono E8.out.size)).mono HB.out.size)⟩
            | true =>
              rw [hq2] at CN2
              have GG := hide (HGOOD.out (by rw [proNoB, hq1, hq2]; rfl))
              clear hq2
              go_wp2_with (go_at_call 69; refine (unhide CN2).mono ?_; rintro e w9 ⟨rfl, hb9⟩)
              have E9 : Hid (Below W0.heap.size W0 w9) := E8.out.trans (hb9.mono E8.out.size)
              have O9 := hide (O8.out.stays hb9)
              clear hb9
              go_roundw
              case rel => exact ⟨i + 1, by omega, by go_num, O9.out, E9.out, GG.out⟩
              case measure => simp [intOf]; omega
        · have hlt' : ¬ (i : Int) < (q : Int) := by omega
          have e9 : ps.take i = ps := List.take_of_length_le (by rw [EQ.out]; omega)
          rw [e9] at HO
          have HRR : Hid (R = (unlikeB (ms.map Mo.name) && unlikeB (ps.map Pr.name))) := by
            show _ = _
            rw [← ER.out]
            exact namI_of HGM.out fun k hk => HG.out k (by have := hk; rw [EQ.out] at this; omega) hk
          clear HG e9
          have h66 : (ms.map Mo.name).length ≤ 1048576 := by rw [List.length_map, EN.out]; exact hml
          have h67 : (ps.map Pr.name).length ≤ 1048576 := by rw [List.length_map, EQ.out]; exact hpl
          have HS6 : Hid (∀ s ∈ ms.map Mo.name, s.size ≤ 1048576) := fun s hs => by
            obtain ⟨y, hy, rfl⟩ := List.mem_map.1 hs
            exact (HMI.out y hy).name
          have HS7 : Hid (∀ s ∈ ps.map Pr.name, s.size ≤ 1048576) := fun s hs => by
            obtain ⟨y, hy, rfl⟩ := List.mem_map.1 hs
            exact (HPI.out y hy).name
          have CN1 := CU _ _ wr (StrsAt.own HO.out.o2) h66 HS6.out
          cases hq1 : unlikeB (ms.map Mo.name) with
          | false =>
            rw [hq1] at CN1
            have eR2 : R = false := by rw [HRR.out, hq1]; rfl
            subst eR2
            clear hq1
            go_wp2_with (go_at_call 69; refine (unhide CN1).mono ?_; rintro e w8 ⟨rfl, hb8⟩)
            go_ret
            exact ⟨rfl, HB.out.trans ((HB2.out.trans (hb8.mono HB2.out.size)).mono HB.out.size)⟩
          | true =>
            rw [hq1] at CN1 HRR
            clear hq1
            go_wp2_with fail
            refine (unhide CN1).mono ?_
            rintro e w8 ⟨rfl, hb8⟩
            have CN2 := CU _ _ w8 (StrsAt.own (HO.out.stays hb8).o1) h67 HS7.out
            have eR2 : R = unlikeB (ps.map Pr.name) := by rw [HRR.out, Bool.true_and]
            subst eR2
            have E8 : Hid (Below W0.heap.size W0 w8) := HB2.out.trans (hb8.mono HB2.out.size)
            clear hb8
            go_wp2_with (go_at_call 69; refine (unhide CN2).mono ?_; rintro e w9 ⟨rfl, hb9⟩)
            go_ret
            exact ⟨rfl, HB.out.trans ((E8.out.trans (hb9.mono E8.out.size)).mono HB.out.size)⟩
end Go.Proofs.YtpdpmnkonkpheaaGreat
