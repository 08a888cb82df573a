/-
  Walks: nodes held against each other, kids ahead of a node, by the program.
-/
import Derived.Test.YtdfahpachbhglaaGreatDoorImpD
import Derived.Test.YtdfahpachbhglaaGreatDoorChecked
import Derived.WalkKit
namespace Go.Proofs.YtdfahpachbhglaaGreatDoor
open Go.RowKit

/-- Are two nodes the same? -/
def sameB (x y : Nd) : Bool := decide (x.kind = y.kind) && decide (x.num = y.num) && (x.name.toList == y.name.toList) && (x.more.toList == y.more.toList) && (x.into.toList == y.into.toList) && decide (x.kids = y.kids)

set_option maxRecDepth 100000 in
set_option maxHeartbeats 2000000 in
theorem same_any (x y : Nd) (kv kv' : Value) (w : World) (hk1 : IntsAt w kv x.kids) (hk2 : IntsAt w kv' y.kids) (hl1 : x.kids.length ≤ 1048576) (hl2 : y.kids.length ≤ 1048576) :
    Calls Tryz.prog 81 #[.agg #[.int .i64 x.kind, .int .i64 x.num, .string x.name, .string x.more, .string x.into, kv], .agg #[.int .i64 y.kind, .int .i64 y.num, .string y.name, .string y.more, .string y.into, kv']] w
      fun e w' => e = .returned (.bool (sameB x y)) ∧ Below w.heap.size w w' := by
  have C := fun w h1 h2 => hide (equal_any kv kv' x.kids y.kids w h1 h2 hl1 hl2)
  have HB : Hid (Below w.heap.size w ((w.alloc (.cells #[.int .i64 x.kind, .int .i64 x.num, .string x.name, .string x.more, .string x.into, kv] 78)).alloc (.cells #[.int .i64 y.kind, .int .i64 y.num, .string y.name, .string y.more, .string y.into, kv'] 78))) := by
    show Below _ _ _; go_grown
  have HK1 : Hid (IntsAt ((w.alloc (.cells #[.int .i64 x.kind, .int .i64 x.num, .string x.name, .string x.more, .string x.into, kv] 78)).alloc (.cells #[.int .i64 y.kind, .int .i64 y.num, .string y.name, .string y.more, .string y.into, kv'] 78)) kv x.kids) := hk1.stays HB.out
  have HK2 : Hid (IntsAt ((w.alloc (.cells #[.int .i64 x.kind, .int .i64 x.num, .string x.name, .string x.more, .string x.into, kv] 78)).alloc (.cells #[.int .i64 y.kind, .int .i64 y.num, .string y.name, .string y.more, .string y.into, kv'] 78)) kv' y.kids) := hk2.stays HB.out
  obtain ⟨ao, c, rfl, _⟩ := hk1
  obtain ⟨bo, d, rfl, _⟩ := hk2
  obtain ⟨n, en⟩ : ∃ n, x.kids.length = n := ⟨_, rfl⟩
  obtain ⟨m, em⟩ : ∃ m, y.kids.length = m := ⟨_, rfl⟩
  obtain ⟨q, eq⟩ : ∃ q, decide (x.kids = y.kids) = q := ⟨_, rfl⟩
  obtain ⟨s, es⟩ : ∃ s, sameB x y = s := ⟨_, rfl⟩
  have HS : Hid (sameB x y = s) := es
  rw [es]
  rw [sameB, eq] at es
  obtain ⟨a0, a1, a2, a3, a4, a5⟩ := x
  obtain ⟨b0, b1, b2, b3, b4, b5⟩ := y
  dsimp only at *
  rw [en, em] at C HB HK1 HK2 ⊢
  rw [eq] at C
  clear en em eq hl1 hl2 HS
  by_cases h0 : a0 = b0
  · subst h0
    by_cases h1 : a1 = b1
    · subst h1
      cases h2 : (a2.toList == b2.toList) with
      | false => 
        have HF : Hid (s = false) := by rw [← es, h2]; show _ = _; simp
        clear es
        (
  go_enter Tryz.func81, Tryz.ntmps81;
  go_wp2_with (go_at_call 98; refine (unhide (C _ HK1.out HK2.out)).mono ?_; rintro e w2 ⟨rfl, hb2⟩; have HB := hide (HB.out.trans (hb2.mono HB.out.size)); clear hb2);
  go_ret;
  exact ⟨by rw [HF.out]; rfl, HB.out⟩)
      | true =>
        cases h3 : (a3.toList == b3.toList) with
        | false => 
          have HF : Hid (s = false) := by rw [← es, h3]; show _ = _; simp
          clear es
          (
  go_enter Tryz.func81, Tryz.ntmps81;
  go_wp2_with (go_at_call 98; refine (unhide (C _ HK1.out HK2.out)).mono ?_; rintro e w2 ⟨rfl, hb2⟩; have HB := hide (HB.out.trans (hb2.mono HB.out.size)); clear hb2);
  go_ret;
  exact ⟨by rw [HF.out]; rfl, HB.out⟩)
        | true =>
          cases h4 : (a4.toList == b4.toList) with
          | false => 
            have HF : Hid (s = false) := by rw [← es, h4]; show _ = _; simp
            clear es
            (
  go_enter Tryz.func81, Tryz.ntmps81;
  go_wp2_with (go_at_call 98; refine (unhide (C _ HK1.out HK2.out)).mono ?_; rintro e w2 ⟨rfl, hb2⟩; have HB := hide (HB.out.trans (hb2.mono HB.out.size)); clear hb2);
  go_ret;
  exact ⟨by rw [HF.out]; rfl, HB.out⟩)
          | true =>
            have HF : Hid (s = q) := by rw [← es, h2, h3, h4]; show _ = _; simp
            clear es
            (
  go_enter Tryz.func81, Tryz.ntmps81;
  go_wp2_with (go_at_call 98; refine (unhide (C _ HK1.out HK2.out)).mono ?_; rintro e w2 ⟨rfl, hb2⟩; have HB := hide (HB.out.trans (hb2.mono HB.out.size)); clear hb2);
  go_ret;
  exact ⟨by rw [HF.out]; rfl, HB.out⟩)
    · have HF : Hid (s = false) := by rw [← es]; show _ = _; simp [h1]
      clear es
      (
  go_enter Tryz.func81, Tryz.ntmps81;
  go_wp2_with (go_at_call 98; refine (unhide (C _ HK1.out HK2.out)).mono ?_; rintro e w2 ⟨rfl, hb2⟩; have HB := hide (HB.out.trans (hb2.mono HB.out.size)); clear hb2);
  go_ret;
  exact ⟨by rw [HF.out]; rfl, HB.out⟩)
  · have HF : Hid (s = false) := by rw [← es]; show _ = _; simp [h0]
    clear es
    (
  go_enter Tryz.func81, Tryz.ntmps81;
  go_wp2_with (go_at_call 98; refine (unhide (C _ HK1.out HK2.out)).mono ?_; rintro e w2 ⟨rfl, hb2⟩; have HB := hide (HB.out.trans (hb2.mono HB.out.size)); clear hb2);
  go_ret;
  exact ⟨by rw [HF.out]; rfl, HB.out⟩)
end Go.Proofs.YtdfahpachbhglaaGreatDoor

namespace Go.Proofs.YtdfahpachbhglaaGreatDoor
open Go.RowKit

/-- Kids that are places ahead, no two the same, no more than a node wants. -/
def AheadP (ks : List Int) (k : Int) : Prop := ks.length ≤ 12 ∧ (∀ x ∈ ks, 0 ≤ x ∧ x < k) ∧ ks.Nodup
instance (ks : List Int) (k : Int) : Decidable (AheadP ks k) := by unfold AheadP; infer_instance
def aheadB (ks : List Int) (k : Int) : Bool := decide (AheadP ks k)

def AheadR (W : World) (ks : List Int) (k : Int) (iv : Value) (wr : World) : Prop :=
  ∃ i : Nat, i ≤ ks.length ∧ iv = .int .i64 i ∧ wr = W ∧ Hid ((∀ x ∈ ks.take i, 0 ≤ x ∧ x < k) ∧ (ks.take i).Nodup)

theorem IntsAt.take {w : World} {a : Addr} {c : Nat} {ks : List Int} (h : IntsAt w (.slice (some a) ks.length c) ks) (i : Nat) (hi : i ≤ ks.length) : IntsAt w (.slice (some a) i c) (ks.take i) := by
  obtain ⟨ao, c', e, hc⟩ := h
  injection e with e1 e2 e3
  subst e1 e3
  refine ⟨some a, c, by rw [List.length_take, Nat.min_eq_left hi], fun j hj => ?_⟩
  rw [List.length_take] at hj
  obtain ⟨a', e, h1, h2⟩ := hc j (by omega)
  exact ⟨a', e, h1, by rw [List.getElem_take]; exact h2⟩

set_option maxRecDepth 100000 in
set_option maxHeartbeats 2000000 in
theorem kidsAhead_any (kd nu : Int) (nm mo it : ByteArray) (kv : Value) (ks : List Int) (k : Int) (w : World) (hK : IntsAt w kv ks) (hr : Room kv) :
    Calls Tryz.prog 82 #[.agg #[.int .i64 kd, .int .i64 nu, .string nm, .string mo, .string it, kv], .int .i64 k] w fun e w' => e = .returned (.bool (aheadB ks k)) ∧ Below w.heap.size w w' := by
  have hb : Below w.heap.size w (w.alloc (.cells #[.int .i64 kd, .int .i64 nu, .string nm, .string mo, .string it, kv] 78)) := (Below.refl _ _).alloc (Nat.le_refl _) _
  have hx := hide (NdBox.made w kd nu nm mo it kv 78)
  have HK := hide (hK.stays hb)
  have HB := hide hb
  clear hb
  obtain ⟨ao, c, rfl, _⟩ := hK
  have hr2 : ks.length ≤ c := hr
  obtain ⟨n, en⟩ : ∃ n, ks.length = n := ⟨_, rfl⟩
  have EN := hide en
  rw [en] at HK HB hx hr2 ⊢
  clear en hr
  by_cases h12 : n ≤ 12
  · have h12' : ¬ (12 : Int) < (n : Int) := by omega
    go_enter Tryz.func82, Tryz.ntmps82
    go_wp2
    obtain ⟨W, hW⟩ : ∃ W, w.alloc (.cells #[.int .i64 kd, .int .i64 nu, .string nm, .string mo, .string it, .slice ao n c] 78) = W := ⟨_, rfl⟩
    rw [hW] at HK HB hx ⊢
    clear hW
    go_loopw [14] (AheadR W ks k) (fun iv _ => n - (intOf iv).toNat)
    case atStart => exact ⟨0, by omega, rfl, rfl, by simp, by simp⟩
    case round =>
      obtain ⟨i, hi, rfl, rfl, HA⟩ := hrel
      rw [EN.out] at hi
      obtain ⟨c0, c1, c2, c3, c4, c5, _⟩ := hx.out
      by_cases hlt : i < n
      · have hlt' : (i : Int) < (n : Int) := by omega
        have hi0 : (0 : Int) ≤ (i : Int) := by omega
        have hic : (i : Int) ≤ (c : Int) := by omega
        have hix : i < ks.length := by rw [EN.out]; exact hlt
        obtain ⟨ao', c', e1, hc1⟩ := HK.out
        injection e1 with e2 e3 e4
        subst e2
        obtain ⟨a, rfl, _, hxx⟩ := hc1 i hix
        have HT : Hid (IntsAt wr (.slice (some a) i c) (ks.take i)) := IntsAt.take (by have := HK.out; rwa [← EN.out] at this) i (by omega)
        have hl12 : (ks.take i).length ≤ 1048576 := by rw [List.length_take]; omega
        have C := fun w h => hide (contains_any (.slice (some a) i c) (ks.take i) ks[i] w h hl12)
        have HX : Hid (ks.take (i + 1) = ks.take i ++ [ks[i]]) := List.take_succ_eq_append_getElem hix
        have HM : Hid (ks[i] ∈ ks) := List.getElem_mem hix
        have HD : Hid (ks[i] ∈ ks.take i → ¬ ks.Nodup) := fun h1 h2 => by
          obtain ⟨j, hj, e⟩ := List.mem_take_iff_getElem.1 h1
          have := List.pairwise_iff_getElem.1 h2 j i (by omega) hix (by omega)
          exact this e
        obtain ⟨x, ex⟩ : ∃ x, ks[i] = x := ⟨_, rfl⟩
        rw [ex] at hxx C HX HM HD
        clear ex hc1 e3 e4 hl12
        by_cases hx0 : x < 0
        · have HF : Hid (aheadB ks k = false) := by
            show _ = _
            rw [aheadB, decide_eq_false_iff_not]
            exact fun h => absurd (h.2.1 x HM.out).1 (by omega)
          (go_wp2_with (go_at_call 99; refine (unhide (C _ HT.out)).mono ?_; rintro e w2 ⟨rfl, rfl⟩))
          go_ret
          exact ⟨by rw [HF.out]; rfl, HB.out⟩
        · by_cases hxk : k ≤ x
          · have HF : Hid (aheadB ks k = false) := by
              show _ = _
              rw [aheadB, decide_eq_false_iff_not]
              exact fun h => absurd (h.2.1 x HM.out).2 (by omega)
            (go_wp2_with (go_at_call 99; refine (unhide (C _ HT.out)).mono ?_; rintro e w2 ⟨rfl, rfl⟩))
            go_ret
            exact ⟨by rw [HF.out]; rfl, HB.out⟩
          · by_cases hin : x ∈ ks.take i
            · have HF : Hid (aheadB ks k = false) := by
                show _ = _
                rw [aheadB, decide_eq_false_iff_not]
                exact fun h => HD.out hin h.2.2
              have e : decide (x ∈ ks.take i) = true := decide_eq_true hin
              rw [e] at C
              clear hin e
              (go_wp2_with (go_at_call 99; refine (unhide (C _ HT.out)).mono ?_; rintro e w2 ⟨rfl, rfl⟩))
              go_ret
              exact ⟨by rw [HF.out]; rfl, HB.out⟩
            · have e : decide (x ∈ ks.take i) = false := decide_eq_false hin
              have HIN := hide hin
              rw [e] at C
              clear hin e
              (go_wp2_with (go_at_call 99; refine (unhide (C _ HT.out)).mono ?_; rintro e w2 ⟨rfl, rfl⟩))
              go_roundw
              case rel => exact ⟨i + 1, by rw [EN.out]; omega, by go_num, rfl, by
                rw [HX.out]
                obtain ⟨h1, h2⟩ := HA.out
                refine ⟨fun y hy => ?_, List.nodup_append.2 ⟨h2, by simp, fun a ha b hb => ?_⟩⟩
                · rcases List.mem_append.1 hy with hy | hy
                  · exact h1 y hy
                  · simp at hy; subst hy; omega
                · simp at hb; subst hb; exact fun e => HIN.out (e ▸ ha)⟩
              case measure => simp [intOf]; omega
      · have hlt' : ¬ (i : Int) < (n : Int) := by omega
        have HF : Hid (aheadB ks k = true) := by
          show _ = _
          have h := HA.out
          rw [List.take_of_length_le (by rw [EN.out]; omega)] at h
          rw [aheadB, decide_eq_true_eq]
          exact ⟨by rw [EN.out]; exact h12, h.1, h.2⟩
        go_wp2
        go_ret
        exact ⟨by rw [HF.out]; rfl, HB.out⟩
  · have h12' : (12 : Int) < (n : Int) := by omega
    have HF : Hid (aheadB ks k = false) := by
      show _ = _
      rw [aheadB, decide_eq_false_iff_not]
      exact fun h => h12 (by rw [← EN.out]; exact h.1)
    go_enter Tryz.func82, Tryz.ntmps82
    go_wp2
    go_ret
    exact ⟨by rw [HF.out]; rfl, HB.out⟩
end Go.Proofs.YtdfahpachbhglaaGreatDoor

namespace Go.Proofs.YtdfahpachbhglaaGreatDoor
open Go.RowKit

def noIface : TypeDesc → Bool
  | .interface _ => false
  | _ => true
theorem run_assert_on {P : Program} (w : World) (t xT : TypeId) (v : Value) (d : TypeDesc) (hu : P.underlying t = some d) (hd : noIface d = true) : (Instr.typeAssert (.iface t v) xT t true).run P w = .ok (.tuple #[v, .bool true]) w := by
  unfold Instr.typeAssert
  simp only [Sem.run_bind, run_underlying hu]
  cases d <;> simp_all [noIface]
theorem run_zero {P : Program} (w : World) (t : TypeId) (z : Value) (hz : (P.info? t).map (·.zero) = some (some z)) : (zeroValue t).run P w = .ok z w := by
  cases hq : P.info? t with
  | none => simp [hq] at hz
  | some i =>
    have hs : i.zero = some z := by simpa [hq] using hz
    simp [zeroValue, typeInfo, hq, hs]
theorem run_assert_off {P : Program} (w : World) (t a xT : TypeId) (v z : Value) (d : TypeDesc) (ht : t ≠ a) (hu : P.underlying a = some d) (hd : noIface d = true) (hz : (P.info? a).map (·.zero) = some (some z)) : (Instr.typeAssert (.iface t v) xT a true).run P w = .ok (.tuple #[z, .bool false]) w := by
  unfold Instr.typeAssert
  simp only [Sem.run_bind, run_underlying hu]
  have := run_zero (P := P) w a z hz
  cases d <;> simp_all [noIface]
theorem run_assert_nil {P : Program} (w : World) (a xT : TypeId) (z : Value) (d : TypeDesc) (hu : P.underlying a = some d) (hd : noIface d = true) (hz : (P.info? a).map (·.zero) = some (some z)) : (Instr.typeAssert .nilIface xT a true).run P w = .ok (.tuple #[z, .bool false]) w := by
  unfold Instr.typeAssert
  simp only [Sem.run_bind, run_underlying hu]
  have := run_zero (P := P) w a z hz
  cases d <;> simp_all [noIface]
theorem on_numNode (v : Value) (w : World) : (Instr.typeAssert (.iface 138 v) 121 138 true).run Tryz.prog w = .ok (.tuple #[v, .bool true]) w := run_assert_on w _ _ v _ Tryz.underlying138 rfl
theorem off_numNode (t : TypeId) (v : Value) (w : World) (ht : t ≠ 138) : (Instr.typeAssert (.iface t v) 121 138 true).run Tryz.prog w = .ok (.tuple #[.agg #[.int .i64 0], .bool false]) w := run_assert_off w _ _ _ v _ _ ht Tryz.underlying138 rfl (by kernel_rfl)
theorem nil_numNode (w : World) : (Instr.typeAssert .nilIface 121 138 true).run Tryz.prog w = .ok (.tuple #[.agg #[.int .i64 0], .bool false]) w := run_assert_nil w _ _ _ _ Tryz.underlying138 rfl (by kernel_rfl)
theorem on_varNode (v : Value) (w : World) : (Instr.typeAssert (.iface 140 v) 121 140 true).run Tryz.prog w = .ok (.tuple #[v, .bool true]) w := run_assert_on w _ _ v _ Tryz.underlying140 rfl
theorem off_varNode (t : TypeId) (v : Value) (w : World) (ht : t ≠ 140) : (Instr.typeAssert (.iface t v) 121 140 true).run Tryz.prog w = .ok (.tuple #[.agg #[.string ⟨#[]⟩], .bool false]) w := run_assert_off w _ _ _ v _ _ ht Tryz.underlying140 rfl (by kernel_rfl)
theorem nil_varNode (w : World) : (Instr.typeAssert .nilIface 121 140 true).run Tryz.prog w = .ok (.tuple #[.agg #[.string ⟨#[]⟩], .bool false]) w := run_assert_nil w _ _ _ _ Tryz.underlying140 rfl (by kernel_rfl)
theorem on_calcNode (v : Value) (w : World) : (Instr.typeAssert (.iface 143 v) 121 143 true).run Tryz.prog w = .ok (.tuple #[v, .bool true]) w := run_assert_on w _ _ v _ Tryz.underlying143 rfl
theorem off_calcNode (t : TypeId) (v : Value) (w : World) (ht : t ≠ 143) : (Instr.typeAssert (.iface t v) 121 143 true).run Tryz.prog w = .ok (.tuple #[.agg #[.int .i64 0, .int .i64 0, .int .i64 0], .bool false]) w := run_assert_off w _ _ _ v _ _ ht Tryz.underlying143 rfl (by kernel_rfl)
theorem nil_calcNode (w : World) : (Instr.typeAssert .nilIface 121 143 true).run Tryz.prog w = .ok (.tuple #[.agg #[.int .i64 0, .int .i64 0, .int .i64 0], .bool false]) w := run_assert_nil w _ _ _ _ Tryz.underlying143 rfl (by kernel_rfl)
theorem on_notNode (v : Value) (w : World) : (Instr.typeAssert (.iface 145 v) 121 145 true).run Tryz.prog w = .ok (.tuple #[v, .bool true]) w := run_assert_on w _ _ v _ Tryz.underlying145 rfl
theorem off_notNode (t : TypeId) (v : Value) (w : World) (ht : t ≠ 145) : (Instr.typeAssert (.iface t v) 121 145 true).run Tryz.prog w = .ok (.tuple #[.agg #[.int .i64 0], .bool false]) w := run_assert_off w _ _ _ v _ _ ht Tryz.underlying145 rfl (by kernel_rfl)
theorem nil_notNode (w : World) : (Instr.typeAssert .nilIface 121 145 true).run Tryz.prog w = .ok (.tuple #[.agg #[.int .i64 0], .bool false]) w := run_assert_nil w _ _ _ _ Tryz.underlying145 rfl (by kernel_rfl)
theorem on_negNode (v : Value) (w : World) : (Instr.typeAssert (.iface 146 v) 121 146 true).run Tryz.prog w = .ok (.tuple #[v, .bool true]) w := run_assert_on w _ _ v _ Tryz.underlying146 rfl
theorem off_negNode (t : TypeId) (v : Value) (w : World) (ht : t ≠ 146) : (Instr.typeAssert (.iface t v) 121 146 true).run Tryz.prog w = .ok (.tuple #[.agg #[.int .i64 0], .bool false]) w := run_assert_off w _ _ _ v _ _ ht Tryz.underlying146 rfl (by kernel_rfl)
theorem nil_negNode (w : World) : (Instr.typeAssert .nilIface 121 146 true).run Tryz.prog w = .ok (.tuple #[.agg #[.int .i64 0], .bool false]) w := run_assert_nil w _ _ _ _ Tryz.underlying146 rfl (by kernel_rfl)
theorem on_setNode (v : Value) (w : World) : (Instr.typeAssert (.iface 148 v) 121 148 true).run Tryz.prog w = .ok (.tuple #[v, .bool true]) w := run_assert_on w _ _ v _ Tryz.underlying148 rfl
theorem off_setNode (t : TypeId) (v : Value) (w : World) (ht : t ≠ 148) : (Instr.typeAssert (.iface t v) 121 148 true).run Tryz.prog w = .ok (.tuple #[.agg #[.string ⟨#[]⟩, .int .i64 0], .bool false]) w := run_assert_off w _ _ _ v _ _ ht Tryz.underlying148 rfl (by kernel_rfl)
theorem nil_setNode (w : World) : (Instr.typeAssert .nilIface 121 148 true).run Tryz.prog w = .ok (.tuple #[.agg #[.string ⟨#[]⟩, .int .i64 0], .bool false]) w := run_assert_nil w _ _ _ _ Tryz.underlying148 rfl (by kernel_rfl)
theorem on_ifNode (v : Value) (w : World) : (Instr.typeAssert (.iface 150 v) 121 150 true).run Tryz.prog w = .ok (.tuple #[v, .bool true]) w := run_assert_on w _ _ v _ Tryz.underlying150 rfl
theorem off_ifNode (t : TypeId) (v : Value) (w : World) (ht : t ≠ 150) : (Instr.typeAssert (.iface t v) 121 150 true).run Tryz.prog w = .ok (.tuple #[.agg #[.int .i64 0, .int .i64 0, .int .i64 0], .bool false]) w := run_assert_off w _ _ _ v _ _ ht Tryz.underlying150 rfl (by kernel_rfl)
theorem nil_ifNode (w : World) : (Instr.typeAssert .nilIface 121 150 true).run Tryz.prog w = .ok (.tuple #[.agg #[.int .i64 0, .int .i64 0, .int .i64 0], .bool false]) w := run_assert_nil w _ _ _ _ Tryz.underlying150 rfl (by kernel_rfl)
theorem on_whileNode (v : Value) (w : World) : (Instr.typeAssert (.iface 152 v) 121 152 true).run Tryz.prog w = .ok (.tuple #[v, .bool true]) w := run_assert_on w _ _ v _ Tryz.underlying152 rfl
theorem off_whileNode (t : TypeId) (v : Value) (w : World) (ht : t ≠ 152) : (Instr.typeAssert (.iface t v) 121 152 true).run Tryz.prog w = .ok (.tuple #[.agg #[.int .i64 0, .int .i64 0], .bool false]) w := run_assert_off w _ _ _ v _ _ ht Tryz.underlying152 rfl (by kernel_rfl)
theorem nil_whileNode (w : World) : (Instr.typeAssert .nilIface 121 152 true).run Tryz.prog w = .ok (.tuple #[.agg #[.int .i64 0, .int .i64 0], .bool false]) w := run_assert_nil w _ _ _ _ Tryz.underlying152 rfl (by kernel_rfl)
theorem on_callNode (v : Value) (w : World) : (Instr.typeAssert (.iface 154 v) 121 154 true).run Tryz.prog w = .ok (.tuple #[v, .bool true]) w := run_assert_on w _ _ v _ Tryz.underlying154 rfl
theorem off_callNode (t : TypeId) (v : Value) (w : World) (ht : t ≠ 154) : (Instr.typeAssert (.iface t v) 121 154 true).run Tryz.prog w = .ok (.tuple #[.agg #[.string ⟨#[]⟩, .string ⟨#[]⟩, .string ⟨#[]⟩, .int .i64 0], .bool false]) w := run_assert_off w _ _ _ v _ _ ht Tryz.underlying154 rfl (by kernel_rfl)
theorem nil_callNode (w : World) : (Instr.typeAssert .nilIface 121 154 true).run Tryz.prog w = .ok (.tuple #[.agg #[.string ⟨#[]⟩, .string ⟨#[]⟩, .string ⟨#[]⟩, .int .i64 0], .bool false]) w := run_assert_nil w _ _ _ _ Tryz.underlying154 rfl (by kernel_rfl)
theorem on_printNode (v : Value) (w : World) : (Instr.typeAssert (.iface 156 v) 121 156 true).run Tryz.prog w = .ok (.tuple #[v, .bool true]) w := run_assert_on w _ _ v _ Tryz.underlying156 rfl
theorem off_printNode (t : TypeId) (v : Value) (w : World) (ht : t ≠ 156) : (Instr.typeAssert (.iface t v) 121 156 true).run Tryz.prog w = .ok (.tuple #[.agg #[.int .i64 0], .bool false]) w := run_assert_off w _ _ _ v _ _ ht Tryz.underlying156 rfl (by kernel_rfl)
theorem nil_printNode (w : World) : (Instr.typeAssert .nilIface 121 156 true).run Tryz.prog w = .ok (.tuple #[.agg #[.int .i64 0], .bool false]) w := run_assert_nil w _ _ _ _ Tryz.underlying156 rfl (by kernel_rfl)
theorem on_readNode (v : Value) (w : World) : (Instr.typeAssert (.iface 157 v) 121 157 true).run Tryz.prog w = .ok (.tuple #[v, .bool true]) w := run_assert_on w _ _ v _ Tryz.underlying157 rfl
theorem off_readNode (t : TypeId) (v : Value) (w : World) (ht : t ≠ 157) : (Instr.typeAssert (.iface t v) 121 157 true).run Tryz.prog w = .ok (.tuple #[.agg #[.string ⟨#[]⟩], .bool false]) w := run_assert_off w _ _ _ v _ _ ht Tryz.underlying157 rfl (by kernel_rfl)
theorem nil_readNode (w : World) : (Instr.typeAssert .nilIface 121 157 true).run Tryz.prog w = .ok (.tuple #[.agg #[.string ⟨#[]⟩], .bool false]) w := run_assert_nil w _ _ _ _ Tryz.underlying157 rfl (by kernel_rfl)
theorem on_delayNode (v : Value) (w : World) : (Instr.typeAssert (.iface 158 v) 121 158 true).run Tryz.prog w = .ok (.tuple #[v, .bool true]) w := run_assert_on w _ _ v _ Tryz.underlying158 rfl
theorem off_delayNode (t : TypeId) (v : Value) (w : World) (ht : t ≠ 158) : (Instr.typeAssert (.iface t v) 121 158 true).run Tryz.prog w = .ok (.tuple #[.agg #[.string ⟨#[]⟩], .bool false]) w := run_assert_off w _ _ _ v _ _ ht Tryz.underlying158 rfl (by kernel_rfl)
theorem nil_delayNode (w : World) : (Instr.typeAssert .nilIface 121 158 true).run Tryz.prog w = .ok (.tuple #[.agg #[.string ⟨#[]⟩], .bool false]) w := run_assert_nil w _ _ _ _ Tryz.underlying158 rfl (by kernel_rfl)
theorem on_contNode (v : Value) (w : World) : (Instr.typeAssert (.iface 159 v) 121 159 true).run Tryz.prog w = .ok (.tuple #[v, .bool true]) w := run_assert_on w _ _ v _ Tryz.underlying159 rfl
theorem off_contNode (t : TypeId) (v : Value) (w : World) (ht : t ≠ 159) : (Instr.typeAssert (.iface t v) 121 159 true).run Tryz.prog w = .ok (.tuple #[.agg #[.string ⟨#[]⟩], .bool false]) w := run_assert_off w _ _ _ v _ _ ht Tryz.underlying159 rfl (by kernel_rfl)
theorem nil_contNode (w : World) : (Instr.typeAssert .nilIface 121 159 true).run Tryz.prog w = .ok (.tuple #[.agg #[.string ⟨#[]⟩], .bool false]) w := run_assert_nil w _ _ _ _ Tryz.underlying159 rfl (by kernel_rfl)
theorem on_skipNode (v : Value) (w : World) : (Instr.typeAssert (.iface 161 v) 121 161 true).run Tryz.prog w = .ok (.tuple #[v, .bool true]) w := run_assert_on w _ _ v _ Tryz.underlying161 rfl
theorem off_skipNode (t : TypeId) (v : Value) (w : World) (ht : t ≠ 161) : (Instr.typeAssert (.iface t v) 121 161 true).run Tryz.prog w = .ok (.tuple #[.agg #[], .bool false]) w := run_assert_off w _ _ _ v _ _ ht Tryz.underlying161 rfl (by kernel_rfl)
theorem nil_skipNode (w : World) : (Instr.typeAssert .nilIface 121 161 true).run Tryz.prog w = .ok (.tuple #[.agg #[], .bool false]) w := run_assert_nil w _ _ _ _ Tryz.underlying161 rfl (by kernel_rfl)
theorem on_blockNode (v : Value) (w : World) : (Instr.typeAssert (.iface 130 v) 121 130 true).run Tryz.prog w = .ok (.tuple #[v, .bool true]) w := run_assert_on w _ _ v _ Tryz.underlying130 rfl
theorem off_blockNode (t : TypeId) (v : Value) (w : World) (ht : t ≠ 130) : (Instr.typeAssert (.iface t v) 121 130 true).run Tryz.prog w = .ok (.tuple #[.agg #[.slice none 0 0], .bool false]) w := run_assert_off w _ _ _ v _ _ ht Tryz.underlying130 rfl (by kernel_rfl)
theorem nil_blockNode (w : World) : (Instr.typeAssert .nilIface 121 130 true).run Tryz.prog w = .ok (.tuple #[.agg #[.slice none 0 0], .bool false]) w := run_assert_nil w _ _ _ _ Tryz.underlying130 rfl (by kernel_rfl)
end Go.Proofs.YtdfahpachbhglaaGreatDoor
