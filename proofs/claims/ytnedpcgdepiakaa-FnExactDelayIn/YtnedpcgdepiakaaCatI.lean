/-
  Walks of the library: slices.Grow of nothing, slices.Concat of rows of numbers.
-/
import Derived.Test.YtnedpcgdepiakaaCloW
import Derived.Test.YtnedpcgdepiakaaAppQ
import Derived.Test.YtnedpcgdepiakaaAid
import Derived.Lib.AppendZeros
namespace Go.Proofs.Ytnedpcgdepiakaa
open Go.RowKit

/-- A row of numbers that is owned. -/
def OwnI (base : Nat) (v : Value) (l : List Int) (w : World) : Prop := w.ownsRow base 3 1 v l.length (l.map I64)
theorem OwnI.more {base : Nat} {v : Value} {l k : List Int} {w : World} {m : Nat} (h : w.ownsRow base 3 1 v m (l.map I64 ++ k.map I64)) : OwnI base v (l ++ k) w := by
  have e := h.1
  rw [← List.map_append] at h
  have : m = (l ++ k).length := by
    rw [List.length_append, List.length_map, List.length_map, Nat.mul_one] at e
    rw [List.length_append]
    omega
  rw [this] at h
  exact h
/-- A row of numbers appended to one that is owned. -/
theorem wpList_app_ints {P : Program} {w : World} {ops : Array Oper} {rest : List Oper} {o : Oper} {a : Act} {Q : Exit → Act → World → Prop} (hgd : o.guard = none) (s x : Operand) (t : TypeId)
    (ho : o.op = .call { callee := .builtin .append, args := #[s, x], argTypes := #[t, t] })
    (base : Nat) (ht : P.underlying t = some (.slice 3)) (hi : (P.info? 3).map (fun i => (i.zero, i.size, i.bytes)) = some (some (.int .i64 0), 1, 8))
    (v : Value) (l : List Int) (hs : a.eval s = v) (hown : OwnI base v l w) (u : Value) (k : List Int) (hx : a.eval x = u) (hk : IntsAt w u k)
    (h63 : l.length + k.length ≤ 4194304) (hbase : base ≤ w.heap.size)
    (h : ∀ v' w', OwnI base v' (l ++ k) w' → Below base w w' → wpList P ops Q rest (a.put o.dst v') w') : wpList P ops Q (o :: rest) a w := by
  obtain ⟨ao, c, rfl, hc⟩ := hk
  cases ao with
  | some ad =>
    refine wpList_appN hgd s x t ho base 3 (.int .i64 0) 8 ht hi rfl v l.length (l.map I64) hs hown ad k.length c (k.map I64) hx (by simp) (fun j u hj => ?_) (fun u hu => ?_) (by unfold maxLen; omega) (by omega) hbase fun v' w' ho' hb' => h v' w' (OwnI.more ho') hb'
    · rw [List.getElem?_map] at hj
      obtain ⟨y, hy, rfl⟩ := Option.map_eq_some_iff.1 hj
      obtain ⟨hj2, rfl⟩ := List.getElem?_eq_some_iff.1 hy
      obtain ⟨a', ha, _, hcell⟩ := hc j hj2
      cases ha
      exact hcell
    · obtain ⟨y, _, rfl⟩ := List.mem_map.1 hu
      rfl
  | none =>
    have h0 : k = [] := by
      rcases k with _ | ⟨y, k⟩
      · rfl
      · obtain ⟨a', ha, _⟩ := hc 0 (by simp)
        simp at ha
    subst h0
    obtain ⟨i, hi2, _, _, _⟩ := info_parts hi
    have hv : ∃ b cap, v = .slice b l.length cap ∧ l.length ≤ cap := by
      rcases hown.2 with ⟨rfl, e0⟩ | ⟨g, cap, cur, rfl, _, _, hr, _⟩
      · have : l.length = 0 := e0
        rw [this]
        exact ⟨none, 0, rfl, Nat.le_refl _⟩
      · exact ⟨_, cap, rfl, hr⟩
    obtain ⟨b, cap, rfl, hr⟩ := hv
    have hrun := fun ty => run_append_none (P := P) w t ty 3 i ht hi2 b l.length cap c hr
    have hk := h (.slice b l.length cap) w (by rw [List.append_nil]; exact hown) (Below.refl _ _)
    refine wpList_plain hgd fun K hK => ?_
    unfold Oper.wp execOp
    simp only [ho, resolve, invoke, builtin, Sem.run_bind, Sem.run_pure, Result.andThen_ok, List.map_toArray, List.map_cons, List.map_nil, hs, hx]
    simp only [List.length_nil]
    rw [hrun]
    exact hK _ _ hk

theorem Try.infoIntT : ∃ i, Try.prog.info? 3 = some i ∧ i.zero = some (.int .i64 0) ∧ i.size = 1 ∧ i.bytes = 8 := by
  obtain ⟨i, h1, h2⟩ := Option.map_eq_some_iff.1 infoI3
  injection h2 with h3 h4
  injection h4 with h4 h5
  exact ⟨i, h1, h3, h4, h5⟩
theorem zeroCellsI_size (z : Value) (n : Nat) : (Builtin.zeroCells #[z] n).size = n := by
  unfold Builtin.zeroCells
  simp

set_option maxRecDepth 100000 in
set_option maxHeartbeats 4000000 in
theorem growNilI_any (n : Nat) (w : World) (h0 : 0 < n) (hn : n ≤ 4194304) :
    Calls Try.prog 47 #[.slice none 0 0, .int .i64 (n : Int)] w fun e w' => ∃ v, e = .returned v ∧ OwnI w.heap.size v [] w' ∧ Below w.heap.size w w' := by
  have h1 : ¬ ((n : Int) < 0) := by omega
  have h4 : (n : Int) > 0 := by omega
  obtain ⟨i, hi, hz, hs, hby⟩ := Try.infoIntT
  have hr : ∀ ty, (Builtin.append_ #[22, 3] ty #[.slice none 0 0, .int .i64 (n : Int)]).run Try.prog w = _ := fun ty => Lib.run_append_nil_zeros w 22 3 ty 3 i (.int .i64 0) .i64 .i64 Try.underlying22 Try.underlying3 hi hz n h0 (by omega) (by omega) (by rw [hby]; omega)
  have HR := hide hr
  have hG : n ≤ grownCap w n 0 3 := grownCap_ge w _ _ _
  have hGm : grownCap w n 0 3 ≤ maxLen := grownCap_le_maxLen w n 0 3 (by unfold maxLen; omega)
  obtain ⟨G, eG⟩ : ∃ G, grownCap w n 0 3 = G := ⟨_, rfl⟩
  rw [eG] at HR hG hGm
  clear hr hi hz hs hby eG
  obtain ⟨cs, ecs⟩ : ∃ cs, Builtin.zeroCells (Value.int .i64 0).cells n ++ Builtin.zeroCells (Value.int .i64 0).cells (G - n) = cs := ⟨_, rfl⟩
  have hcs : cs.size = G := by
    rw [← ecs]
    show (Builtin.zeroCells #[_] n ++ Builtin.zeroCells #[_] (G - n)).size = G
    rw [Array.size_append, zeroCellsI_size, zeroCellsI_size]
    omega
  rw [ecs] at HR
  clear ecs
  have hG63 : G ≤ 9223372036854775807 := by unfold maxLen at hGm; omega
  have HO : Hid (OwnI w.heap.size (.slice (some ⟨w.heap.size, 0, none⟩) 0 G) [] (w.drew.alloc (.cells cs 3))) :=
    ⟨rfl, .inr ⟨w.heap.size, G, cs, rfl, Nat.le_refl _, Box.made w.drew cs 3, Nat.zero_le _, hGm, by omega, by simp⟩⟩
  have HB : Hid (Below w.heap.size w (w.drew.alloc (.cells cs 3))) := (Below.refl _ _).drew.alloc (Nat.le_refl _) _
  go_enter Try.func47, Try.ntmps47
  go_wp2_with (at_builtin; refine Lib.wpList_append_run _ rfl _ _ _ _ rfl _ _ rfl rfl _ _ (HR.out _) ?_)
  go_ret
  exact ⟨_, rfl, HO.out, HB.out⟩

/-- A row of rows of numbers. -/
def RowsI (w : World) (v : Value) (xss : List (List Int)) : Prop :=
  ∃ ao c, v = .slice ao xss.length c ∧ ∀ j (h : j < xss.length), ∃ a u, ao = some a ∧ a.block < w.heap.size ∧ w.cell? (a.add j) = some u ∧ IntsAt w u xss[j]
theorem RowsI.stays {w w' : World} {v : Value} {xss : List (List Int)} (h : RowsI w v xss) (hb : Below w.heap.size w w') : RowsI w' v xss := by
  obtain ⟨ao, c, rfl, hc⟩ := h
  refine ⟨ao, c, rfl, fun j hj => ?_⟩
  obtain ⟨a, u, rfl, ha, hx, hu⟩ := hc j hj
  exact ⟨a, u, rfl, Nat.lt_of_lt_of_le ha hb.size, (hb.cell (by rw [block_add]; exact ha)).trans hx, hu.stays hb⟩
def CcI (w : World) (xss : List (List Int)) (sv iv : Value) (wr : World) : Prop :=
  ∃ i : Nat, i ≤ xss.length ∧ iv = .int .i64 i ∧ sv = .int .i64 ((xss.take i).flatten.length : Nat) ∧ wr = w
def CdI (w : World) (xss : List (List Int)) (v iv : Value) (wr : World) : Prop :=
  ∃ i : Nat, i ≤ xss.length ∧ iv = .int .i64 i ∧ Hid (OwnI w.heap.size v (xss.take i).flatten wr) ∧ Hid (Below w.heap.size w wr) ∧ Hid (w.heap.size ≤ wr.heap.size)
theorem flatI_take_le (xss : List (List Int)) (i : Nat) : (xss.take i).flatten.length ≤ xss.flatten.length := by
  have h : xss.flatten = (xss.take i).flatten ++ (xss.drop i).flatten := by rw [← List.flatten_append, List.take_append_drop]
  rw [h, List.length_append]
  omega

set_option maxRecDepth 100000 in
set_option maxHeartbeats 4000000 in
theorem concatI_any (v : Value) (xss : List (List Int)) (w : World) (h : RowsI w v xss) (hl : xss.length ≤ 1048576) (h0 : 0 < xss.flatten.length) (hm : xss.flatten.length ≤ 4194304) :
    Calls Try.prog 35 #[v] w fun e w' => ∃ v, e = .returned v ∧ OwnI w.heap.size v xss.flatten w' ∧ Below w.heap.size w w' := by
  have H := hide h
  have H0 := hide h0
  have HM := hide hm
  have CG := fun n z h0 hn => hide (growNilI_any n z h0 hn)
  obtain ⟨ao, c, rfl, _⟩ := h
  obtain ⟨n, en⟩ : ∃ n, xss.length = n := ⟨_, rfl⟩
  have EN := hide en
  rw [en] at H hl ⊢
  clear en h0 hm
  go_enter Try.func35, Try.ntmps35
  go_wp2
  go_loopw [3, 11] (CcI w xss) (fun _ iv _ => n - (intOf iv).toNat)
  case atStart => exact ⟨0, by omega, rfl, by simp, rfl⟩
  case round =>
    obtain ⟨i, hi, rfl, rfl, ewr⟩ := hrel
    subst ewr
    rw [EN.out] at hi
    have hs1 : (xss.take i).flatten.length ≤ 4194304 := Nat.le_trans (flatI_take_le xss i) HM.out
    by_cases hlt : i < n
    · have hlt' : (i : Int) < (n : Int) := by omega
      have hi0 : (0 : Int) ≤ (i : Int) := by omega
      have hix : i < xss.length := by rw [EN.out]; exact hlt
      have hs2 : (xss.take (i + 1)).flatten.length ≤ 4194304 := Nat.le_trans (flatI_take_le xss (i + 1)) HM.out
      have HT : Hid ((xss.take (i + 1)).flatten.length = (xss.take i).flatten.length + xss[i].length) := by
        show _ = _
        rw [List.take_succ_eq_append_getElem hix, List.flatten_append, List.length_append]
        simp
      obtain ⟨ao', cc, e5, hc⟩ := H.out
      injection e5 with e6 e7 e8
      subst e6
      obtain ⟨a, u, rfl, _, hx, ⟨uo, uc, rfl, _⟩⟩ := hc i hix
      rw [HT.out] at hs2
      obtain ⟨l, el⟩ : ∃ l, xss[i].length = l := ⟨_, rfl⟩
      rw [el] at HT hx hs2
      clear hc e7 e8 el
      obtain ⟨s, es⟩ : ∃ s, (xss.take i).flatten.length = s := ⟨_, rfl⟩
      rw [es] at HT hs1 hs2 ⊢
      clear es
      have hw : wrap64 ((s : Int) + (l : Int)) = (s : Int) + (l : Int) := by unfold wrap64; omega
      have hw2 : ¬ ((s : Int) + (l : Int) < 0) := by omega
      go_wp2
      go_roundw
      case rel => exact ⟨i + 1, by rw [EN.out]; omega, by go_num, by rw [HT.out, Int.natCast_add], rfl⟩
      case measure => simp [intOf]; omega
    · have hlt' : ¬ (i : Int) < (n : Int) := by omega
      have e9 : xss.take i = xss := List.take_of_length_le (by rw [EN.out]; omega)
      rw [e9]
      obtain ⟨t, et⟩ : ∃ t, xss.flatten.length = t := ⟨_, rfl⟩
      have CG1 := CG t wr (by rw [← et]; exact H0.out) (by rw [← et]; exact HM.out)
      rw [et]
      clear CG et
      go_wp2_with fail
      refine (unhide CG1).mono ?_
      rintro e w1 ⟨v1, rfl, ho1, hb1⟩
      have O1 := hide ho1
      have B1 := hide hb1
      clear ho1 hb1 CG1
      obtain ⟨w, ew⟩ : ∃ w, w = wr := ⟨_, rfl⟩
      subst ew
      go_wp2
      go_loopw [6, 27] (CdI w xss) (fun _ iv _ => n - (intOf iv).toNat)
      case atStart => exact ⟨0, by omega, rfl, O1.out, B1.out, B1.out.size⟩
      case round =>
        clear O1 B1
        obtain ⟨i, hi, rfl, HO, HB, HZ⟩ := hrel
        rw [EN.out] at hi
        by_cases hlt : i < n
        · have hlt' : (i : Int) < (n : Int) := by omega
          have hi0 : (0 : Int) ≤ (i : Int) := by omega
          have hix : i < xss.length := by rw [EN.out]; exact hlt
          have HLL : Hid ((xss.take i).flatten.length + xss[i].length ≤ 4194304) := by
            have := flatI_take_le xss (i + 1)
            rw [List.take_succ_eq_append_getElem hix, List.flatten_append, List.length_append] at this
            rw [List.flatten_cons, List.flatten_nil, List.append_nil] at this
            exact Nat.le_trans this HM.out
          have HT : Hid ((xss.take (i + 1)).flatten = (xss.take i).flatten ++ xss[i]) := by
            show _ = _
            rw [List.take_succ_eq_append_getElem hix, List.flatten_append]
            simp
          obtain ⟨ao', cc, e5, hc⟩ := H.out.stays HB.out
          injection e5 with e6 e7 e8
          subst e6
          obtain ⟨a, u, rfl, _, hx, hu⟩ := hc i hix
          obtain ⟨L, eL⟩ : ∃ L, (xss.take i).flatten = L := ⟨_, rfl⟩
          obtain ⟨K, eK⟩ : ∃ K, xss[i] = K := ⟨_, rfl⟩
          rw [eL, eK] at HLL HT
          rw [eL] at HO
          rw [eK] at hu
          have HU := hide hu
          clear hc e7 e8 eL eK hu
          go_wp2_with (at_builtin; refine wpList_app_ints rfl (.tmp 31) (.tmp 32) 22 rfl w.heap.size Try.underlying22 infoI3 _ L rfl HO.out _ K rfl HU.out HLL.out HZ.out ?_)
          intro v2 w2 hown2 hb2
          have O2 : Hid (OwnI w.heap.size v2 (xss.take (i + 1)).flatten w2) := by
            rw [HT.out]
            exact hown2
          have B2 : Hid (Below w.heap.size w w2) := HB.out.trans hb2
          clear hown2 hb2 HO HB HU hx
          go_wp2
          go_roundw
          case rel => exact ⟨i + 1, by rw [EN.out]; omega, by go_num, O2.out, B2.out, B2.out.size⟩
          case measure => simp [intOf]; omega
        · have hlt' : ¬ (i : Int) < (n : Int) := by omega
          have e9 : xss.take i = xss := List.take_of_length_le (by rw [EN.out]; omega)
          rw [e9] at HO
          go_wp2
          go_ret
          exact ⟨_, rfl, HO.out, HB.out⟩
end Go.Proofs.Ytnedpcgdepiakaa
